/- A pick out of a list of texts that the call lays. -/
/- Rows of bytes that the call itself makes; texts out of them. -/
/- One byte put behind a row of bytes that the call itself has made. -/
/- The draws of texts to be quoted. -/
/- The laws' own helpers over expressions: the copy. -/
/- The draws of expressions: rows of expressions that a draw makes. -/
/- spec.l04Kids. -/
/- The laws' own helpers over expressions: the equality. -/
import Derived.Test.YtpdcmmhhgnackaaDoorMMem
import Derived.Lib.AppendStr
import Derived.Laws.BytesString
import Derived.Laws.Cells
import Derived.Lib.ConvBytes
import Derived.Deep.RegionHeld3
import Derived.Deep.DrawnRows
namespace Go.Proofs.YtpdcmmhhgnackaaDoor
open Go.RowKit

def TextIn (xs : List ByteArray) (v : Value) : Prop := ∃ s, v = .string s ∧ s ∈ xs

theorem Strs.grown {w w' : World} {a : Option Addr} {c : Nat} {xs : List ByteArray} (h : Strs w a c xs) {g : Nat} (hg : w.grownBy w' (some g)) (hne : ∀ b off, a = some ⟨b, off, none⟩ → b ≠ g) : Strs w' a c xs := by
  obtain ⟨h1, h2, h3, h3', h4⟩ := h
  refine ⟨h1, h2, h3, h3', fun hp => ?_⟩
  obtain ⟨b, off, ha, hlt, hc⟩ := h4 hp
  refine ⟨b, off, ha, Nat.lt_of_lt_of_le hlt hg.size, fun i hi => ?_⟩
  rw [World.cell?_of_block (w := w) (w' := w') (a := ⟨b, off + i, none⟩) (hg.block b hlt (fun e => hne b off ha (by cases e; rfl)))]
  exact hc i hi

set_option maxHeartbeats 1000000 in
theorem l01Pick {w0 : World} {a : Option Addr} {c : Nat} {l : List UInt8} {g : Nat} {w : World} (hd : Deck w0 a c l g w) (b : Nat) (cx : Nat) (xs : List ByteArray) (hx : Strs w (some ⟨b, 0, none⟩) cx xs) (hb : b ≠ g) (h0 : 1 ≤ xs.length) (h1 : xs.length ≤ 1000000) :
    Calls Tryd.prog 25 #[.pointer (some ⟨g, 0, none⟩), .slice (some ⟨b, 0, none⟩) xs.length cx] w (Drawn w0 a c l g w (TextIn xs)) := by
  go_enter Tryd.func25, Tryd.ntmps25
  go_wp2_with fail
  refine (l01Below hd (xs.length : Int) (by omega) (by omega)).mono ?_
  rintro e w1 ⟨v, ⟨x, rfl, hx0, hx1⟩, rfl, hd1, hg1⟩
  obtain ⟨k, rfl⟩ := Int.eq_ofNat_of_zero_le hx0
  have hk : k < xs.length := by omega
  have hs1 := hx.grown hg1 (fun b' off' e => by cases e; exact hb)
  have hc2 : w1.cell? ⟨b, k, none⟩ = some (.string xs[k]) := by
    obtain ⟨b', off', e, _, h⟩ := hs1.spot hk
    cases e
    simpa using h
  go_wp2_with fail
  go_ret
  exact ⟨_, ⟨_, rfl, List.getElem_mem hk⟩, rfl, hd1, hg1⟩

/-- A new row of texts that is laid in one go. -/
theorem strsLit (w : World) (xs : List ByteArray) (hs : ∀ s ∈ xs, s.size ≤ maxLen) (hn : xs.length ≤ 1000000) :
    Strs (w.alloc (.cells (xs.map Value.string).toArray 9)) (some ⟨w.heap.size, 0, none⟩) xs.length xs := by
  refine ⟨Nat.le_refl _, by unfold maxLen; omega, hs, (fun h => by cases h), fun _ => ⟨w.heap.size, 0, rfl, by simp, fun i hi => ?_⟩⟩
  rw [cell_of_row _ _ _ _ _ _ (heap_alloc_new w _)]
  simp [hi]

theorem Deck.alloc {w0 : World} {a : Option Addr} {c : Nat} {l : List UInt8} {g : Nat} {w : World} (h : Deck w0 a c l g w) (o : Obj) : Deck w0 a c l g (w.alloc o) :=
  h.belowed ((Below.refl _ _).alloc (Nat.le_refl _) _)

/-- The call draws out of a list that it lays. -/
theorem pickLit {w0 : World} {a : Option Addr} {c : Nat} {l : List UInt8} {g : Nat} {w : World} (hd : Deck w0 a c l g w) (xs : List ByteArray) (n : Nat) (hl : n = xs.length) (hs : ∀ s ∈ xs, s.size ≤ maxLen) (h0 : 1 ≤ xs.length) (h1 : xs.length ≤ 1000000) (cs : Array Value) (hcs : cs = (xs.map Value.string).toArray) :
    Calls Tryd.prog 25 #[.pointer (some ⟨g, 0, none⟩), .slice (some ⟨w.heap.size, 0, none⟩) n n] (w.alloc (.cells cs 9)) (Drawn w0 a c l g (w.alloc (.cells cs 9)) (TextIn xs)) := by
  subst hl hcs
  exact l01Pick (hd.alloc _) w.heap.size xs.length xs (strsLit w xs hs h1) (by have := hd.lt; omega) h0 h1

theorem Own.draw {w w' : World} {lo g : Nat} {a : Option Addr} {c : Nat} {xs : List ByteArray} (h : Own w lo a c xs) (hg : w.grownBy w' (some g)) (hlt : g < lo) : Own w' lo a c xs :=
  h.kept hg (fun k hk e => by cases e; have := (h.lt hk).1; omega)

/-- A row of the call's own grows while the cursor stands. -/
theorem grown_any {a b c : World} {g : Nat} {row : Option Nat} (h : a.grownBy b (some g)) (k : b.grownBy c row) (hr : ∀ j, row = some j → a.heap.size ≤ j) : a.grownBy c (some g) :=
  ⟨k.os.trans h.os, k.tape.trans h.tape, k.output.trans h.output, Nat.le_trans h.size k.size, fun i hi hne => (k.block i (Nat.lt_of_lt_of_le hi h.size) (fun e => by have := hr i e.symm; omega)).trans (h.block i hi hne)⟩

theorem grown_below {a b c : World} {g : Nat} (h : a.grownBy b (some g)) (k : Below b.heap.size b c) : a.grownBy c (some g) :=
  grown_any h (row := none) ⟨k.os, k.tape, k.output, k.size, fun i hi _ => k.block i hi⟩ (fun j e => by cases e)

theorem grown_alloc {a b : World} {g : Nat} (h : a.grownBy b (some g)) (o : Obj) : a.grownBy (b.alloc o) (some g) := grown_below h ((Below.refl _ _).alloc (Nat.le_refl _) _)

end Go.Proofs.YtpdcmmhhgnackaaDoor

namespace Go.Proofs.YtpdcmmhhgnackaaDoor
open Go.RowKit

def bcells (l : List UInt8) : List Value := l.map fun b => Value.int .u8 b.toNat

def OwnB (w : World) (B : Nat) (a : Option Addr) (c : Nat) (l : List UInt8) : Prop :=
  w.ownsRow B 5 1 (.slice a l.length c) l.length (bcells l)

theorem Tryd.infoByte : (Tryd.prog.info? 5).map (fun i => (i.zero, i.size, i.bytes)) = some (some (.int .u8 0), 1, 1) := by kernel_rfl

theorem OwnB.lt {w : World} {B : Nat} {a : Option Addr} {c : Nat} {l : List UInt8} (h : OwnB w B a c l) {g : Nat} (hg : (Value.slice a l.length c).ownBlock = some g) : B ≤ g ∧ g < w.heap.size :=
  World.ownsRow.lt h g hg

theorem OwnB.below {w w' : World} {B : Nat} {a : Option Addr} {c : Nat} {l : List UInt8} (h : OwnB w B a c l) (hb : Below w.heap.size w w') : OwnB w' B a c l := by
  unfold OwnB at h ⊢
  refine ⟨h.1, ?_⟩
  rcases h.2 with h2 | ⟨g, cap, cur, hv, hB, hg, r⟩
  · exact .inl h2
  · refine .inr ⟨g, cap, cur, hv, hB, ?_, r⟩
    have : g < w.heap.size := by
      rcases Nat.lt_or_ge g w.heap.size with hlt | hge
      · exact hlt
      · rw [Array.getElem?_eq_none hge] at hg; cases hg
    rw [hb.block g this, hg]

theorem ownBEmpty (w : World) : OwnB (w.alloc (.cells #[] 5)) w.heap.size (some ⟨w.heap.size, 0, none⟩) 0 [] :=
  World.ownsRow_lit (base := w.heap.size) (e := 5) (size := 1) w #[] 0 (Nat.le_refl _) (by unfold maxLen; omega) rfl

theorem strCells_eq (s : ByteArray) : Lib.strCells s = bcells s.data.toList := rfl

/-- append of a text's bytes to a row of the call's own. -/
theorem wpAppendText {w : World} {ops : Array Oper} {rest : List Oper} {o : Oper} {A : Act} {Q : Exit → Act → World → Prop} (hgd : o.guard = none) (sl x : Operand)
    (ho : o.op = .call { callee := .builtin .append, args := #[sl, x], argTypes := #[22, 9] })
    (i0 : TypeInfo) (hi0 : Tryd.prog.info? 5 = some i0) (hz0 : i0.zero = some (.int .u8 0)) (hz1 : i0.size = 1) (hz2 : i0.bytes = 1)
    (B : Nat) (a : Option Addr) (c : Nat) (l : List UInt8) (s : ByteArray) (hs : A.eval sl = .slice a l.length c) (hown : OwnB w B a c l) (hx : A.eval x = .string s)
    (hn : l.length + s.size ≤ 140737488355328) (hB : B ≤ w.heap.size)
    (h : ∀ a' c' w', OwnB w' B a' c' (l ++ s.data.toList) → w.grownBy w' (Value.slice a l.length c).ownBlock → wpList Tryd.prog ops Q rest (A.put o.dst (.slice a' (l ++ s.data.toList).length c')) w') :
    wpList Tryd.prog ops Q (o :: rest) A w := by
  refine Lib.wpList_append_own_string _ hgd sl x 22 9 ho B 5 i0 Tryd.underlying22 Tryd.underlying9 hi0 hz0 hz1 hz2 (.slice a l.length c) l.length (bcells l) hs hown s hx (by unfold maxLen; omega) hn hB ?_
  intro v' w' hown' hg _
  have hl : s.size = s.data.toList.length := by simp
  have hf : ∃ a' c', v' = .slice a' (l.length + s.size) c' := by
    rcases hown'.2 with ⟨rfl, h0⟩ | ⟨g, cap, cur, rfl, _⟩
    · exact ⟨none, 0, by rw [h0]⟩
    · exact ⟨_, _, rfl⟩
  obtain ⟨a', c', rfl⟩ := hf
  have hb : bcells l ++ Lib.strCells s = bcells (l ++ s.data.toList) := by rw [strCells_eq]; simp [bcells]
  rw [hb] at hown'
  have := h a' c' w' (by unfold OwnB; rw [List.length_append, ← hl]; exact hown') hg
  rw [List.length_append, ← hl] at this
  exact this

theorem foldl_push (l : List UInt8) (r : ByteArray) : (l.map fun b => (b.toNat : Int)).foldl (fun r n => r.push (UInt8.ofNat n.toNat)) r = ⟨(r.data.toList ++ l).toArray⟩ := by
  induction l generalizing r with
  | nil => simp
  | cons b l ih =>
    rw [List.map_cons, List.foldl_cons, ih]
    simp [ByteArray.push]

theorem convBytes {W : World} {B : Nat} {a : Option Addr} {c : Nat} {l : List UInt8} (h : OwnB W B a c l) :
    (convert 22 9 (.slice a l.length c)).run Tryd.prog W = .ok (.string ⟨l.toArray⟩) W := by
  rw [run_convert_bytes_string W _ _ _ _ _ _ Tryd.underlying22 Tryd.underlying5 Tryd.underlying9]
  unfold OwnB at h
  rcases h.2 with ⟨hv, hn⟩ | ⟨g, cap, cur, hv, hb, hg, hnc, hcm, hcs, ht⟩
  · simp only [Value.slice.injEq] at hv
    obtain ⟨rfl, _, rfl⟩ := hv
    have : l = [] := List.eq_nil_of_length_eq_zero hn
    subst this
    simp [Conv.bytesToString]
    rfl
  · simp only [Value.slice.injEq] at hv
    obtain ⟨rfl, _, rfl⟩ := hv
    rw [run_bytesToString W ⟨g, 0, none⟩ l.length c (l.map fun b => (b.toNat : Int))]
    · rw [foldl_push]; rfl
    · have hl : l.length = (bcells l).length := by simp [bcells]
      rw [hl, run_loadCells_list (P := Tryd.prog) W ⟨g, 0, none⟩ (bcells l) (h.cells rfl)]
      simp [bcells]

end Go.Proofs.YtpdcmmhhgnackaaDoor

namespace Go.Proofs.YtpdcmmhhgnackaaDoor
open Go.RowKit

theorem wpAppendByte {w : World} {ops : Array Oper} {rest : List Oper} {o : Oper} {A : Act} {Q : Exit → Act → World → Prop} (hgd : o.guard = none) (s x : Operand)
    (ho : o.op = .call { callee := .builtin .append, args := #[s, x], argTypes := #[22, 22] })
    (i0 : TypeInfo) (hi0 : Tryd.prog.info? 5 = some i0) (hz0 : i0.zero = some (.int .u8 0)) (hz1 : i0.size = 1) (hz2 : i0.bytes = 1)
    (B : Nat) (a : Option Addr) (c : Nat) (l : List UInt8) (g : Nat) (y : UInt8) (hs : A.eval s = .slice a l.length c) (hown : OwnB w B a c l) (hx : A.eval x = .slice (some ⟨g, 0, none⟩) 1 1) (hc : w.cell? ⟨g, 0, none⟩ = some (.int .u8 (y.toNat : Int)))
    (hn : l.length + 1 ≤ 140737488355328) (hB : B ≤ w.heap.size)
    (h : ∀ a' c' w' l', Hid (l' = l ++ [y]) → OwnB w' B a' c' l' → w.grownBy w' (Value.slice a l.length c).ownBlock → ((Value.slice a' l'.length c').ownBlock = (Value.slice a l.length c).ownBlock ∨ (Value.slice a' l'.length c').ownBlock = some w.heap.size) → wpList Tryd.prog ops Q rest (A.put o.dst (.slice a' l'.length c')) w') :
    wpList Tryd.prog ops Q (o :: rest) A w := by
  refine wpList_append_own_at _ hgd s x 22 ho B 5 i0 (.int .u8 0) 1 1 Tryd.underlying22 hi0 hz0 hz1 hz2 rfl (by decide) (.slice a l.length c) l.length (bcells l) hs hown
    ⟨g, 0, none⟩ 1 1 [.int .u8 (y.toNat : Int)] hx rfl ?_ (fun u hu => by simp at hu; subst hu; rfl) (by unfold maxLen; omega) (by omega) hB ?_
  · intro j u hu
    match j, hu with
    | 0, hu => simp at hu; subst hu; simpa [Addr.add] using hc
  · intro v' w' hown' hg _ hat
    have hf : ∃ a' c', v' = .slice a' (l.length + 1) c' := by
      rcases hown'.2 with ⟨_, h0⟩ | ⟨g', cap, cur, rfl, _⟩
      · omega
      · exact ⟨_, _, rfl⟩
    obtain ⟨a', c', rfl⟩ := hf
    have hb : bcells l ++ [Value.int .u8 (y.toNat : Int)] = bcells (l ++ [y]) := by simp [bcells]
    rw [hb] at hown'
    have hll : (l ++ [y]).length = l.length + 1 := by simp
    have := h a' c' w' (l ++ [y]) rfl (by unfold OwnB; rw [hll]; exact hown') hg (by rw [hll]; exact hat)
    rw [hll] at this
    exact this

theorem hid_len {l l' : List UInt8} {y : UInt8} (h : Hid (l' = l ++ [y])) : l'.length = l.length + 1 := by rw [h.out]; simp

theorem ownBOne (w : World) (y : UInt8) : OwnB (w.alloc (.cells #[.int .u8 (y.toNat : Int)] 5)) w.heap.size (some ⟨w.heap.size, 0, none⟩) 1 [y] :=
  World.ownsRow_lit (base := w.heap.size) (e := 5) (size := 1) w #[.int .u8 (y.toNat : Int)] 1 (Nat.le_refl _) (by unfold maxLen; omega) rfl

theorem OwnB.alloc {w : World} {B : Nat} {a : Option Addr} {c : Nat} {l : List UInt8} (h : OwnB w B a c l) (o : Obj) : OwnB (w.alloc o) B a c l :=
  h.below ((Below.refl _ _).alloc (Nat.le_refl _) _)

theorem OwnB.kept {w w' : World} {B : Nat} {a : Option Addr} {c : Nat} {l : List UInt8} {row : Option Nat} (h : OwnB w B a c l) (hg : w.grownBy w' row)
    (hne : ∀ g, (Value.slice a l.length c).ownBlock = some g → row ≠ some g) : OwnB w' B a c l := by
  refine World.ownsRow.kept h hg ?_
  cases ho : (Value.slice a l.length c).ownBlock with
  | none => exact .inl rfl
  | some g => exact .inr (fun e => hne g ho e.symm)

theorem belowBytesW (w : World) (t : ByteArray) : Below w.heap.size w (Lib.bytesWorld w 5 t) :=
  ⟨rfl, rfl, rfl, by rw [Lib.bytesWorld_size]; omega, fun k hk => Lib.bytesWorld_at_old _ _ _ k hk⟩

theorem convText (w : World) (s : ByteArray) : (convert 9 22 (.string s)).run Tryd.prog w = .ok (.slice (some ⟨w.heap.size, 0, none⟩) s.size (grownCap w s.size 0 5)) (Lib.bytesWorld w 5 s) :=
  Lib.run_convert_string_bytes w _ _ _ s Tryd.underlying9 Tryd.underlying22 Tryd.underlying5

/-- The row that a text is turned into. -/
theorem convTextEx (w : World) (s : ByteArray) : ∃ W cap, (convert 9 22 (.string s)).run Tryd.prog w = .ok (.slice (some ⟨w.heap.size, 0, none⟩) s.size cap) W ∧ Below w.heap.size w W ∧ w.heap.size < W.heap.size ∧ s.size ≤ cap ∧ ∀ (j : Nat) (h : j < s.size), W.cell? ⟨w.heap.size, j, none⟩ = some (.int .u8 (s[j].toNat : Int)) := by
  refine ⟨_, _, convText w s, belowBytesW w s, by rw [Lib.bytesWorld_size]; omega, grownCap_ge _ _ _ _, fun j hj => ?_⟩
  rw [Lib.bytesWorld_cell _ _ _ _ hj]
  have hl : j < s.data.toList.length := by simpa using hj
  rw [List.getD_eq_getElem?_getD, List.getElem?_eq_getElem hl]
  rfl

theorem byte_of {n : Int} (h : (Lit.int .u8 n).wf = true) : ∃ y : UInt8, n = (y.toNat : Int) := by
  have hmin : IntKind.u8.min = 0 := by decide
  have hmax : IntKind.u8.max = 255 := by decide
  simp [Lit.wf, hmin, hmax] at h
  refine ⟨UInt8.ofNat n.toNat, ?_⟩
  rw [UInt8.toNat_ofNat']
  omega

theorem take_snoc (s : ByteArray) (k : Nat) (h : k < s.size) : s.data.toList.take (k + 1) = s.data.toList.take k ++ [s[k]] := by
  rw [List.take_succ_eq_append_getElem (by simpa using h)]; rfl

theorem byte_eq {a b : UInt8} (h : a = b) : (((a.toNat : Int)) == (b.toNat : Int)) = true := by subst h; simp
theorem byte_ne {a b : UInt8} (h : a ≠ b) : (((a.toNat : Int)) == (b.toNat : Int)) = false := by
  rw [beq_eq_false_iff_ne]
  intro e
  exact h (UInt8.toNat_inj.1 (by omega))
theorem byte_le (a : UInt8) : (a.toNat : Int) ≤ 255 := by have := UInt8.toNat_lt a; omega

end Go.Proofs.YtpdcmmhhgnackaaDoor

namespace Go.Proofs.YtpdcmmhhgnackaaDoor
open Go.RowKit

set_option maxHeartbeats 1000000 in
theorem l01PickIntP {w0 : World} {a : Option Addr} {c : Nat} {l : List UInt8} {g : Nat} {w : World} (hd : Deck w0 a c l g w) (P : Int → Prop) (b n : Nat) (cs : Array Value) (hb : w.heap[b]? = some (.cells cs 3 (0, 0))) (hbg : b ≠ g) (hn : cs.size = n) (h0 : 1 ≤ n) (h1 : n ≤ 1000)
    (hi : ∀ (k : Nat) (v : Value), cs[k]? = some v → ∃ x : Int, v = .int .i64 x ∧ P x) :
    Calls Tryd.prog 24 #[.pointer (some ⟨g, 0, none⟩), .slice (some ⟨b, 0, none⟩) n n] w (Drawn w0 a c l g w (fun v => ∃ x : Int, v = .int .i64 x ∧ P x)) := by
  have hbl : b < w.heap.size := by
    rcases Nat.lt_or_ge b w.heap.size with hlt | hge
    · exact hlt
    · rw [Array.getElem?_eq_none hge] at hb; cases hb
  go_enter Tryd.func24, Tryd.ntmps24
  go_wp2_with fail
  refine (l01Below hd (n : Int) (by omega) (by omega)).mono ?_
  rintro e w1 ⟨v, ⟨x, rfl, hx0, hx1⟩, rfl, hd1, hg1⟩
  obtain ⟨k, rfl⟩ := Int.eq_ofNat_of_zero_le hx0
  have hk : k < cs.size := by omega
  obtain ⟨v, hv⟩ : ∃ v, cs[k]? = some v := ⟨cs[k], Array.getElem?_eq_getElem hk⟩
  obtain ⟨y, rfl, hy⟩ := hi k v hv
  have hb1 : w1.heap[b]? = some (.cells cs 3 (0, 0)) := (hg1.block b hbl (fun e => hbg (by cases e; rfl))).trans hb
  have hc2 : w1.cell? ⟨b, k, none⟩ = some (.int .i64 y) := by rw [cell_of_row _ _ _ _ _ _ hb1]; exact hv
  have hkn : k < n := by omega
  have HV := Lib.hid hv
  have HI := Lib.hid hi
  have HY := Lib.hid hy
  clear hv hi hb hb1 hn hk hy
  go_wp2_with fail
  go_ret
  exact ⟨_, ⟨y, rfl, HY.out⟩, rfl, hd1, hg1⟩

def texts5 : List ByteArray := [⟨#[]⟩, ⟨#[97]⟩, ⟨#[105, 116, 39, 115]⟩, ⟨#[34, 113, 34]⟩, ⟨#[39, 39]⟩]
/-- What FnQuote asks of a text. -/
def Quotable (s : ByteArray) : Prop := s.size ≤ 10 ∧ s.data.toList.contains 0 = false
theorem texts5_fit : ∀ s ∈ texts5, s.size ≤ 10 ∧ s.data.toList.contains 0 = false := by unfold texts5; decide

end Go.Proofs.YtpdcmmhhgnackaaDoor

namespace Go.Proofs.YtpdcmmhhgnackaaDoor
open Go.RowKit

/-- What a copy of an expression answers: the same tree, in new blocks. -/
def NewEx (w : World) (d : Nat) (e : Ex) (x : Ending) (w' : World) : Prop :=
  ∃ a c, x = .returned (.agg #[.int .i64 e.kind, .string e.text, .int .i64 e.num, .slice a e.kids.length c]) ∧ KidsB w.heap.size w' d a c e.kids ∧ Below w.heap.size w w'

def NewKids (w : World) (d : Nat) (kids : List Ex) (x : Ending) (w' : World) : Prop :=
  ∃ a c, x = .returned (.slice a kids.length c) ∧ KidsB w.heap.size w' d a c kids ∧ Below w.heap.size w w'

def ToP (d : Nat) : Prop := ∀ (e : Ex) (a : Option Addr) (c : Nat) (w : World), e.fit → e.wt ≤ 1048576 → KidsAt w d a c e.kids →
  Calls Tryd.prog 97 #[.agg #[.int .i64 e.kind, .string e.text, .int .i64 e.num, .slice a e.kids.length c]] w (NewEx w d e)

theorem Tryd.infoExpr : (Tryd.prog.info? 26).map (fun i => (i.zero, i.size, i.bytes)) = some (some (.agg #[.int .i64 0, .string ByteArray.empty, .int .i64 0, .slice none 0 0]), 4, 56) := by kernel_rfl

/-- What has been copied of a row of expressions. -/
def Done (w : World) (d : Nat) (kids : List Ex) (done : List Es) (wr : World) : Prop :=
  done.length ≤ kids.length ∧ (∀ (j : Nat) (h : j < done.length) (h' : j < kids.length), done[j].e = kids[j] ∧ KidsB (w.heap.size + 1) wr d done[j].a done[j].c kids[j].kids) ∧
  wr.ownsRow w.heap.size 26 4 (.slice (some ⟨w.heap.size, 0, none⟩) kids.length kids.length) kids.length (efill done kids.length) ∧ w.heap.size < wr.heap.size ∧ Below w.heap.size w wr

theorem Done.end {w wr : World} {d : Nat} {kids : List Ex} {done : List Es} (h : Done w d kids done wr) (hn : done.length = kids.length) (hm : kids.length ≤ maxLen) (hfit : ∀ e ∈ kids, e.fit) :
    KidsB w.heap.size wr (d + 1) (some ⟨w.heap.size, 0, none⟩) kids.length kids := by
  obtain ⟨_, hd, hown, hlt, hb⟩ := h
  refine ⟨Nat.le_refl _, hm, (fun h => by cases h), fun hp => ⟨w.heap.size, 0, rfl, Nat.le_refl _, hlt, fun i hi => ?_⟩⟩
  rw [← hn, efill_all, hn] at hown
  obtain ⟨c0, c1, c2, c3⟩ := ecells_at done i (by omega)
  obtain ⟨he, hk⟩ := hd i (by omega) hi
  have e0 := (World.ownsRow.cellAt (w := wr) hown (i * 4) (by omega)).trans c0
  have e1 := (World.ownsRow.cellAt (w := wr) hown (i * 4 + 1) (by omega)).trans c1
  have e2 := (World.ownsRow.cellAt (w := wr) hown (i * 4 + 2) (by omega)).trans c2
  have e3 := (World.ownsRow.cellAt (w := wr) hown (i * 4 + 3) (by omega)).trans c3
  unfold Es.k at e0
  unfold Es.t at e1
  unfold Es.n at e2
  unfold Es.s at e3
  rw [he] at e0 e1 e2 e3
  rw [Nat.zero_add]
  exact ⟨e0, e1, e2, hfit _ (List.getElem_mem hi), _, _, e3, hk.lower (by omega)⟩

theorem Done.step {w wr w2 w3 : World} {d : Nat} {kids : List Ex} {done : List Es} (h : Done w d kids done wr) (hlt : done.length < kids.length) {a : Option Addr} {c : Nat}
    (hk : KidsB wr.heap.size w2 d a c kids[done.length].kids) (hb2 : Below wr.heap.size wr w2)
    (h3 : w3 = (((w2.setCell ⟨w.heap.size, done.length * 4, none⟩ (.int .i64 kids[done.length].kind)).setCell ⟨w.heap.size, done.length * 4 + 1, none⟩ (.string kids[done.length].text)).setCell ⟨w.heap.size, done.length * 4 + 2, none⟩ (.int .i64 kids[done.length].num)).setCell ⟨w.heap.size, done.length * 4 + 3, none⟩ (.slice a kids[done.length].kids.length c)) :
    Done w d kids (done ++ [⟨kids[done.length], a, c⟩]) w3 := by
  obtain ⟨hle, hd, hown, hlw, hbw⟩ := h
  have hown2 : w2.ownsRow w.heap.size 26 4 (.slice (some ⟨w.heap.size, 0, none⟩) kids.length kids.length) kids.length (efill done kids.length) := World.ownsRow.kept (row := none) hown ⟨hb2.os, hb2.tape, hb2.output, hb2.size, fun k hk _ => hb2.block k hk⟩ (.inr (fun e => by cases e))
  have R0 := hown2.stored (done.length * 4) (.int .i64 kids[done.length].kind)
  have R1 := R0.1.stored (done.length * 4 + 1) (.string kids[done.length].text)
  have R2 := R1.1.stored (done.length * 4 + 2) (.int .i64 kids[done.length].num)
  have R3 := R2.1.stored (done.length * 4 + 3) (.slice a kids[done.length].kids.length c)
  have hset := efill_set done kids.length ⟨kids[done.length], a, c⟩ hlt
  unfold Es.k Es.t Es.n Es.s at hset
  simp only at hset
  rw [hset] at R3
  have hbw2 : Below w.heap.size w w2 := hbw.trans (hb2.mono hbw.size)
  have RB := (((hbw2.setCell (p := ⟨w.heap.size, done.length * 4, none⟩) (Nat.le_refl _) (.int .i64 kids[done.length].kind)).setCell (p := ⟨w.heap.size, done.length * 4 + 1, none⟩) (Nat.le_refl _) (.string kids[done.length].text)).setCell (p := ⟨w.heap.size, done.length * 4 + 2, none⟩) (Nat.le_refl _) (.int .i64 kids[done.length].num)).setCell (p := ⟨w.heap.size, done.length * 4 + 3, none⟩) (Nat.le_refl _) (.slice a kids[done.length].kids.length c)
  have hlt2 : w.heap.size < w2.heap.size := Nat.lt_of_lt_of_le hlw hb2.size
  have hsz : w3.heap.size = w2.heap.size := by subst h3; simp [World.setCell]
  have hcs : ∀ b, b ≠ w.heap.size → ∀ o, w3.cell? ⟨b, o, none⟩ = w2.cell? ⟨b, o, none⟩ := by
    intro b hb o
    subst h3
    rw [World.cell?_setCell_other _ _ _ _ (by simp [hb]), World.cell?_setCell_other _ _ _ _ (by simp [hb]), World.cell?_setCell_other _ _ _ _ (by simp [hb]), World.cell?_setCell_other _ _ _ _ (by simp [hb])]
  refine ⟨by simp; omega, fun j hj hj' => ?_, by subst h3; exact R3.1, by omega, by subst h3; exact RB⟩
  by_cases hjl : j < done.length
  · rw [List.getElem_append_left hjl]
    obtain ⟨h1, h2⟩ := hd j hjl hj'
    refine ⟨h1, (h2.below hb2).agree (by omega) fun b hb _ o => hcs b (by omega) o⟩
  · have hje : j = done.length := by simp at hj; omega
    subst hje
    rw [List.getElem_append_right (Nat.le_refl _)]
    simp only [Nat.sub_self, List.getElem_cons_zero]
    refine ⟨by first | rfl | trivial, (hk.lower (by omega)).agree (by omega) fun b hb _ o => hcs b (by omega) o⟩

theorem KidsAt.fits {w : World} {d : Nat} {a : Option Addr} {c : Nat} {kids : List Ex} (h : KidsAt w d a c kids) : ∀ e ∈ kids, e.fit := by
  intro e he
  cases d with
  | zero => exact h.elim
  | succ d =>
    obtain ⟨i, hi, rfl⟩ := List.mem_iff_getElem.1 he
    obtain ⟨_, _, _, _, _, _, _, hf, _⟩ := h.spot hi
    exact hf

theorem wtL_get {l : List Ex} {k : Nat} (h : k < l.length) : l[k].wt ≤ wtL l := by
  have h1 := wtL_take l k h
  have h2 := wtL_mono l (k + 1)
  omega

set_option maxHeartbeats 1000000 in
theorem toKids (d : Nat) (ih : ToP d) (a : Option Addr) (c : Nat) (xs : List Ex) (w : World) (hx : KidsAt w (d + 1) a c xs) (hn : xs.length + wtL xs ≤ 1048576) :
    Calls Tryd.prog 59 #[.slice a xs.length c] w (NewKids w (d + 1) xs) := by
  obtain ⟨i0, hi0, hz0, hz1, hz2⟩ := info_parts Tryd.infoExpr
  have hb16 : i0.bytes * xs.length ≤ 281474976710656 := by rw [hz2]; omega
  have hfits := Lib.hid hx.fits
  have hl := hx.len
  go_enter Tryd.func59, Tryd.ntmps59
  go_wp2_with (at_make; refine wpList_make_full _ rfl _ _ 24 rfl w.heap.size 26 i0 (.agg #[.int .i64 0, .string ByteArray.empty, .int .i64 0, .slice none 0 0]) 4 Tryd.underlying24 hi0 hz0 hz1 .i64 .i64 _ _ xs.length rfl rfl rfl rfl hb16 (by unfold maxLen; omega) (Nat.le_refl _) ?_; intro w1 hown hg)
  have hown1 : Done w d xs [] w1 := by
    refine ⟨Nat.zero_le _, fun j h => by simp at h, ?_, ?_, (Below.refl _ _).grown hg (Nat.le_refl _) (fun k hk => by cases hk)⟩
    · unfold efill
      rw [List.nil_append, List.length_nil, Nat.sub_zero, ecells_none]
      exact hown
    · rcases hown.2 with ⟨h, _⟩ | ⟨g, cap, cur, hv, _, hgg, _⟩
      · cases h
      · simp only [Value.slice.injEq, Option.some.injEq, Addr.mk.injEq] at hv
        rcases Nat.lt_or_ge w.heap.size w1.heap.size with h | h
        · exact h
        · rw [← hv.1.1, Array.getElem?_eq_none h] at hgg; cases hgg
  clear hown hg
  go_loopw [4] (fun i wr => ∃ done : List Es, i = .int .i64 done.length ∧ Done w d xs done wr) (fun i _ => xs.length - (intOf i).toNat)
  case atStart => exact ⟨[], rfl, hown1⟩
  case round =>
    obtain ⟨done, rfl, hd⟩ := hrel
    by_cases hlt : done.length < xs.length
    · obtain ⟨b, off, rfl, hbl, hc0, hc1, hc2, hfit, a', c', hc3, hkid⟩ := (hx.below hd.2.2.2.2).spot hlt
      have HK := Lib.hid hkid
      have HD := Lib.hid hd
      clear hkid hx hd
      go_wp2_with fail
      refine (ih xs[done.length] a' c' _ hfit (Nat.le_trans (wtL_get hlt) (by omega)) HK.out).mono ?_
      rintro e w2 ⟨a2, c2, rfl, hk2, hb2⟩
      have hown2 : w2.ownsRow w.heap.size 26 4 (.slice (some ⟨w.heap.size, 0, none⟩) xs.length xs.length) xs.length (efill done xs.length) := World.ownsRow.kept (row := none) HD.out.2.2.1 ⟨hb2.os, hb2.tape, hb2.output, hb2.size, fun k hk _ => hb2.block k hk⟩ (.inr (fun e => by cases e))
      obtain ⟨hs0, hs1, hs2, hs3⟩ := efill_at done xs.length hlt
      have hd0 : w2.cell? ⟨w.heap.size, done.length * 4, none⟩ = some (.int .i64 0) := (hown2.cellAt _ (by omega)).trans hs0
      have hd1 : w2.cell? ⟨w.heap.size, done.length * 4 + 1, none⟩ = some (.string ByteArray.empty) := (hown2.cellAt _ (by omega)).trans hs1
      have hd2 : w2.cell? ⟨w.heap.size, done.length * 4 + 2, none⟩ = some (.int .i64 0) := (hown2.cellAt _ (by omega)).trans hs2
      have hd3 : w2.cell? ⟨w.heap.size, done.length * 4 + 3, none⟩ = some (.slice none 0 0) := (hown2.cellAt _ (by omega)).trans hs3
      have hf0 : w2.frozen? ⟨w.heap.size, done.length * 4, none⟩ = false := hown2.frozenAt _
      have hf1 : w2.frozen? ⟨w.heap.size, done.length * 4 + 1, none⟩ = false := hown2.frozenAt _
      have hf2 : w2.frozen? ⟨w.heap.size, done.length * 4 + 2, none⟩ = false := hown2.frozenAt _
      have hf3 : w2.frozen? ⟨w.heap.size, done.length * 4 + 3, none⟩ = false := hown2.frozenAt _
      have HS := Lib.hid (HD.out.step hlt hk2 hb2 rfl)
      clear hown2 hs0 hs1 hs2 hs3 hc0 hc1 hc2 hc3 hbl hk2 hb2 HD HK
      go_wp2_with fail
      go_roundw
      case rel => exact ⟨done ++ [⟨xs[done.length], a2, c2⟩], by simp, HS.out⟩
      case measure => simp [intOf]; omega
    · have hle := hd.1
      have hee : done.length = xs.length := by omega
      have HE := Lib.hid (hd.end hee (by unfold maxLen; omega) hfits.out)
      have hbl := hd.2.2.2.2
      clear hd
      go_wp2_with fail
      go_ret
      exact ⟨_, _, rfl, HE.out, hbl⟩

set_option maxHeartbeats 1000000 in
theorem toEx : ∀ d, ToP d
  | 0 => fun _ _ _ _ _ _ h => h.elim
  | d + 1 => by
    intro e a c w hfit hwt hk
    have hks := toKids d (toEx d) a c e.kids
    have hw := Ex.wt_eq e
    have HK := Lib.hid (fun w' (hb : Below w.heap.size w w') => hk.below hb)
    clear hk
    go_enter Tryd.func97, Tryd.ntmps97
    go_wp2_with fail
    refine (hks _ (HK.out _ ?_) (by omega)).mono ?_
    · exact (((Below.refl _ _).alloc (Nat.le_refl _) _).alloc (by simp) _).alloc (by simp; omega) _
    rintro x w2 ⟨a2, c2, rfl, hk2, hb2⟩
    have hB : Below w.heap.size w w2 := ((((Below.refl _ _).alloc (Nat.le_refl _) _).alloc (by simp) _).alloc (by simp; omega) _).trans (hb2.mono (by simp; omega))
    obtain ⟨hcw, hfw⟩ := bcellE hb2
    have g0 : w2.cell? ⟨w.heap.size + 1 + 1, 0, none⟩ = some (.int .i64 e.kind) := (hcw _ _ (by simp)).trans (by simp [go_sem])
    have g1 : w2.cell? ⟨w.heap.size + 1 + 1, 1, none⟩ = some (.string e.text) := (hcw _ _ (by simp)).trans (by simp [go_sem])
    have g2 : w2.cell? ⟨w.heap.size + 1 + 1, 2, none⟩ = some (.int .i64 e.num) := (hcw _ _ (by simp)).trans (by simp [go_sem])
    have g3 : w2.cell? ⟨w.heap.size + 1 + 1, 3, none⟩ = some (.slice none 0 0) := (hcw _ _ (by simp)).trans (by simp [go_sem])
    have z3 : w2.frozen? ⟨w.heap.size + 1 + 1, 3, none⟩ = false := (hfw _ _ (by simp)).trans (by simp [go_sem])
    have y0 : w2.cell? ⟨w.heap.size + 1, 0, none⟩ = some (.int .i64 0) := (hcw _ _ (by simp)).trans (by simp [go_sem])
    have y1 : w2.cell? ⟨w.heap.size + 1, 1, none⟩ = some (.string ByteArray.empty) := (hcw _ _ (by simp)).trans (by simp [go_sem]; rfl)
    have y2 : w2.cell? ⟨w.heap.size + 1, 2, none⟩ = some (.int .i64 0) := (hcw _ _ (by simp)).trans (by simp [go_sem])
    have y3 : w2.cell? ⟨w.heap.size + 1, 3, none⟩ = some (.slice none 0 0) := (hcw _ _ (by simp)).trans (by simp [go_sem])
    have x0 : w2.frozen? ⟨w.heap.size + 1, 0, none⟩ = false := (hfw _ _ (by simp)).trans (by simp [go_sem])
    have x1 : w2.frozen? ⟨w.heap.size + 1, 1, none⟩ = false := (hfw _ _ (by simp)).trans (by simp [go_sem])
    have x2 : w2.frozen? ⟨w.heap.size + 1, 2, none⟩ = false := (hfw _ _ (by simp)).trans (by simp [go_sem])
    have x3 : w2.frozen? ⟨w.heap.size + 1, 3, none⟩ = false := (hfw _ _ (by simp)).trans (by simp [go_sem])
    have HE : Hid (∀ w5 : World, w2.heap.size ≤ w5.heap.size → (∀ b, w.heap.size + 3 ≤ b → ∀ o, w5.cell? ⟨b, o, none⟩ = w2.cell? ⟨b, o, none⟩) → KidsB w.heap.size w5 (d + 1) a2 c2 e.kids) := by
      intro w5 h1 h2
      refine KidsB.lower (lo := w.heap.size + 1 + 1 + 1) (by omega) (KidsB.agree (w := w2) h1 (fun b hb _ o => h2 b hb o) (by simpa using hk2))
    have HB := Lib.hid hB
    clear hk2 hb2 hB hcw hfw
    go_wp2_with fail
    refine bodyPost_ret (v := .agg #[.int .i64 e.kind, .string e.text, .int .i64 e.num, .slice a2 e.kids.length c2]) (by simp [results, Tryd.results97, go_sem, *]) rfl ⟨_, _, rfl, HE.out _ (by simp [World.setCell]) ?_, ?_⟩
    · intro b hb o
      have ho : ∀ (wv : World) (q : Addr) (v : Value), q.block < w.heap.size + 3 → (wv.setCell q v).cell? ⟨b, o, none⟩ = wv.cell? ⟨b, o, none⟩ := fun wv q v hq => World.cell?_setCell_other _ _ _ _ (by intro h; subst h; simp at hq; omega)
      exact (ho _ _ _ (by simp)).trans ((ho _ _ _ (by simp)).trans ((ho _ _ _ (by simp)).trans ((ho _ _ _ (by simp)).trans (ho _ _ _ (by simp)))))
    · exact ((((HB.out.setCell (by simp; omega) _).setCell (by simp) _).setCell (by simp) _).setCell (by simp) _).setCell (by simp) _

end Go.Proofs.YtpdcmmhhgnackaaDoor

namespace Go.Proofs.YtpdcmmhhgnackaaDoor
open Go.RowKit

theorem KidsQ.mono {q : Nat → Prop} {w : World} : ∀ {d d' : Nat} {a : Option Addr} {c : Nat} {kids : List Ex}, d ≤ d' → KidsQ q w d a c kids → KidsQ q w d' a c kids
  | 0, _, _, _, _, _, h => h.elim
  | d + 1, 0, _, _, _, hd, _ => by omega
  | d + 1, d' + 1, a, c, kids, hd, h => by
    obtain ⟨h1, h2, h3, h4⟩ := h
    refine ⟨h1, h2, h3, fun hp => ?_⟩
    obtain ⟨b, off, ha, hq, hlt, hc⟩ := h4 hp
    exact ⟨b, off, ha, hq, hlt, fun i hi => (hc i hi).mono fun a' c' hk => KidsQ.mono (by omega) hk⟩

theorem KidsQ.toB {lo : Nat} {q : Nat → Prop} {w : World} (hq : ∀ b, q b → lo ≤ b) : ∀ {d : Nat} {a : Option Addr} {c : Nat} {kids : List Ex}, KidsQ q w d a c kids → KidsB lo w d a c kids
  | 0, _, _, _, h => h
  | d + 1, a, c, kids, h => by
    obtain ⟨h1, h2, h3, h4⟩ := h
    refine ⟨h1, h2, h3, fun hp => ?_⟩
    obtain ⟨b, off, ha, hb, hlt, hc⟩ := h4 hp
    exact ⟨b, off, ha, hq b hb, hlt, fun i hi => (hc i hi).mono fun a' c' hk => KidsQ.toB hq hk⟩

theorem KidsB.toQ {lo : Nat} {w : World} : ∀ {d : Nat} {a : Option Addr} {c : Nat} {kids : List Ex}, KidsB lo w d a c kids → KidsQ (fun b => lo ≤ b) w d a c kids
  | 0, _, _, _, h => h
  | d + 1, a, c, kids, h => by
    obtain ⟨h1, h2, h3, h4⟩ := h
    refine ⟨h1, h2, h3, fun hp => ?_⟩
    obtain ⟨b, off, ha, hb, hlt, hc⟩ := h4 hp
    exact ⟨b, off, ha, hb, hlt, fun i hi => (hc i hi).mono fun a' c' hk => hk.toQ⟩

/-- A row of expressions that the call itself has made. -/
structure Row (lo : Nat) (w : World) (a : Option Addr) (c : Nat) (es : List Es) : Prop where
  own : w.ownsRow lo 26 4 (.slice a es.length c) es.length (ecells es)
  kid : ∀ x ∈ es, x.e.fit ∧ ∃ d, KidsQ (fun b => lo ≤ b ∧ (Value.slice a es.length c).ownBlock ≠ some b) w d x.a x.c x.e.kids

theorem Row.nil (lo : Nat) (w : World) : Row lo w none 0 [] := ⟨World.ownsRow_nil _ _ _ _, fun x hx => by simp at hx⟩

theorem Row.grown {lo : Nat} {w w' : World} {a : Option Addr} {c : Nat} {es : List Es} {row : Option Nat} (h : Row lo w a c es) (hg : w.grownBy w' row) (hr : ∀ k, row = some k → k < lo) : Row lo w' a c es := by
  refine ⟨h.own.kept hg ?_, fun x hx => ⟨(h.kid x hx).1, ?_⟩⟩
  · cases ho : (Value.slice a es.length c).ownBlock with
    | none => exact .inl rfl
    | some g =>
      right
      intro e
      have h1 := (h.own.lt g ho).1
      have h2 := hr g e.symm
      omega
  · obtain ⟨d, hk⟩ := (h.kid x hx).2
    exact ⟨d, hk.agree hg.size fun b hq hb o => cell_grown hg hb (fun e => by have := hr b e; omega) o⟩

theorem Row.alloc {lo : Nat} {w : World} {a : Option Addr} {c : Nat} {es : List Es} (h : Row lo w a c es) (o : Obj) : Row lo (w.alloc o) a c es := by
  have hb : Below w.heap.size w (w.alloc o) := (Below.refl _ _).alloc (Nat.le_refl _) o
  exact h.grown (row := none) ⟨hb.os, hb.tape, hb.output, hb.size, fun k hk _ => hb.block k hk⟩ (by simp)

theorem Row.below {lo : Nat} {w w' : World} {a : Option Addr} {c : Nat} {es : List Es} (h : Row lo w a c es) (hb : Below w.heap.size w w') : Row lo w' a c es :=
  h.grown (row := none) ⟨hb.os, hb.tape, hb.output, hb.size, fun k hk _ => hb.block k hk⟩ (by simp)

theorem Row.set {lo : Nat} {w : World} {a : Option Addr} {c : Nat} {es : List Es} (h : Row lo w a c es) {R : Nat} (hR : R < lo) (j : Nat) (v : Value) : Row lo (w.setCell ⟨R, j, none⟩ v) a c es :=
  h.grown (grown_set w R j v) (fun k hk => by cases hk; exact hR)

theorem Row.lower {lo lo' : Nat} {w : World} {a : Option Addr} {c : Nat} {es : List Es} (h : Row lo w a c es) (hl : lo' ≤ lo) : Row lo' w a c es := by
  refine ⟨⟨h.own.1, ?_⟩, fun x hx => ⟨(h.kid x hx).1, ?_⟩⟩
  · rcases h.own.2 with h2 | ⟨g, cap, cur, hv, hb, r⟩
    · exact .inl h2
    · exact .inr ⟨g, cap, cur, hv, by omega, r⟩
  · obtain ⟨d, hk⟩ := (h.kid x hx).2
    exact ⟨d, hk.imp fun b h _ => ⟨by omega, h.2⟩⟩

theorem Row.push {lo : Nat} {w w' : World} {a a' : Option Addr} {c c' : Nat} {es : List Es} (h : Row lo w a c es) (x : Es) (hf : x.e.fit) {d : Nat} (hk : KidsQ (fun b => lo ≤ b ∧ (Value.slice a es.length c).ownBlock ≠ some b) w d x.a x.c x.e.kids)
    (hown : w'.ownsRow lo 26 4 (.slice a' (es.length + 1) c') (es.length + 1) (ecells es ++ [x.k, x.t, x.n, x.s])) (hg : w.grownBy w' (Value.slice a es.length c).ownBlock)
    (hat : (Value.slice a' (es.length + 1) c').ownBlock = (Value.slice a es.length c).ownBlock ∨ (Value.slice a' (es.length + 1) c').ownBlock = some w.heap.size) : Row lo w' a' c' (es ++ [x]) := by
  have hll : (es ++ [x]).length = es.length + 1 := by simp
  have turn : ∀ {d : Nat} {p : Option Addr} {q : Nat} {kids : List Ex}, KidsQ (fun b => lo ≤ b ∧ (Value.slice a es.length c).ownBlock ≠ some b) w d p q kids → KidsQ (fun b => lo ≤ b ∧ (Value.slice a' (es ++ [x]).length c').ownBlock ≠ some b) w' d p q kids := by
    intro d p q kids hk
    have h1 := hk.imp (q' := fun b => (lo ≤ b ∧ (Value.slice a es.length c).ownBlock ≠ some b) ∧ b < w.heap.size) fun b h hb => ⟨h, hb⟩
    have h2 := h1.agree (w' := w') hg.size fun b hq hb o => cell_grown hg hb (fun e => hq.1.2 e) o
    refine h2.imp fun b hq _ => ⟨hq.1.1, ?_⟩
    rw [hll]
    rcases hat with e | e
    · rw [e]; exact hq.1.2
    · rw [e]; intro e2; have := Option.some.inj e2; omega
  refine ⟨?_, fun y hy => ?_⟩
  · rw [hll, ecells_append]
    exact hown
  · rcases List.mem_append.1 hy with hy | hy
    · obtain ⟨d, hk⟩ := (h.kid y hy).2
      exact ⟨(h.kid y hy).1, d, turn hk⟩
    · rw [List.mem_singleton] at hy
      subst hy
      exact ⟨hf, d, turn hk⟩

theorem Row.kids {lo : Nat} {w : World} {a : Option Addr} {c : Nat} {es : List Es} (h : Row lo w a c es) : ∃ d, KidsB lo w d a c (es.map Es.e) := by
  have hd : ∀ l : List Es, (∀ x ∈ l, ∃ d, KidsQ (fun b => lo ≤ b ∧ (Value.slice a es.length c).ownBlock ≠ some b) w d x.a x.c x.e.kids) → ∃ D, ∀ x ∈ l, KidsQ (fun b => lo ≤ b ∧ (Value.slice a es.length c).ownBlock ≠ some b) w D x.a x.c x.e.kids := by
    intro l
    induction l with
    | nil => intro _; exact ⟨0, fun x hx => by simp at hx⟩
    | cons y r ih =>
      intro hl
      obtain ⟨D, hD⟩ := ih fun x hx => hl x (List.mem_cons_of_mem _ hx)
      obtain ⟨d, hd⟩ := hl y (List.mem_cons_self ..)
      refine ⟨max D d, fun x hx => ?_⟩
      rcases List.mem_cons.1 hx with rfl | hx
      · exact hd.mono (Nat.le_max_right ..)
      · exact (hD x hx).mono (Nat.le_max_left ..)
  obtain ⟨D, hD⟩ := hd es fun x hx => (h.kid x hx).2
  refine ⟨D + 1, ?_⟩
  rcases h.own.2 with ⟨hv, hn⟩ | ⟨g, cap, cur, hv, hB, hg, hnc, hcm, hcs, ht⟩
  · simp only [Value.slice.injEq] at hv
    obtain ⟨rfl, _, rfl⟩ := hv
    have : es = [] := List.eq_nil_of_length_eq_zero hn
    subst this
    exact KidsB.nil _ _ _
  · simp only [Value.slice.injEq] at hv
    obtain ⟨rfl, _, rfl⟩ := hv
    have hgl : g < w.heap.size := by
      rcases Nat.lt_or_ge g w.heap.size with hlt | hge
      · exact hlt
      · rw [Array.getElem?_eq_none hge] at hg; cases hg
    refine ⟨by rw [List.length_map]; exact hnc, hcm, (fun h => by cases h), fun hp => ⟨g, 0, rfl, hB, hgl, fun i hi => ?_⟩⟩
    rw [List.length_map] at hi
    obtain ⟨c0, c1, c2, c3⟩ := ecells_at es i hi
    have hown := h.own
    have e0 := (World.ownsRow.cellAt (w := w) hown (i * 4) (by omega)).trans c0
    have e1 := (World.ownsRow.cellAt (w := w) hown (i * 4 + 1) (by omega)).trans c1
    have e2 := (World.ownsRow.cellAt (w := w) hown (i * 4 + 2) (by omega)).trans c2
    have e3 := (World.ownsRow.cellAt (w := w) hown (i * 4 + 3) (by omega)).trans c3
    have hx := h.kid es[i] (List.getElem_mem hi)
    rw [Nat.zero_add]
    simp only [List.getElem_map]
    exact ⟨e0, e1, e2, hx.1, _, _, e3, (hD es[i] (List.getElem_mem hi)).toB fun b hb => hb.1⟩

/-- One expression in a block of its own. -/
def ExRow (W : World) (R : Nat) (k : Int) (t : ByteArray) (n : Int) (v : Value) : Prop := W.heap[R]? = some (.cells #[.int .i64 k, .string t, .int .i64 n, v] 26 (0, 0))

theorem ExRow.cells {W : World} {R : Nat} {k : Int} {t : ByteArray} {n : Int} {v : Value} (h : ExRow W R k t n v) :
    W.cell? ⟨R, 0, none⟩ = some (.int .i64 k) ∧ W.cell? ⟨R, 1, none⟩ = some (.string t) ∧ W.cell? ⟨R, 2, none⟩ = some (.int .i64 n) ∧ W.cell? ⟨R, 3, none⟩ = some v ∧ ∀ o, W.frozen? ⟨R, o, none⟩ = false := by
  refine ⟨by rw [cell_of_row _ _ _ _ _ _ h]; rfl, by rw [cell_of_row _ _ _ _ _ _ h]; rfl, by rw [cell_of_row _ _ _ _ _ _ h]; rfl, by rw [cell_of_row _ _ _ _ _ _ h]; rfl, fun o => ?_⟩
  unfold World.frozen?
  rw [h]
  simp

theorem ExRow.lt {W : World} {R : Nat} {k : Int} {t : ByteArray} {n : Int} {v : Value} (h : ExRow W R k t n v) : R < W.heap.size := by
  rcases Nat.lt_or_ge R W.heap.size with hlt | hge
  · exact hlt
  · unfold ExRow at h; rw [Array.getElem?_eq_none hge] at h; cases h

theorem ExRow.kept {W W' : World} {R : Nat} {k : Int} {t : ByteArray} {n : Int} {v : Value} {row : Option Nat} (h : ExRow W R k t n v) (hg : W.grownBy W' row) (hne : row ≠ some R) : ExRow W' R k t n v :=
  (hg.block R h.lt (fun e => hne e.symm)).trans h

theorem exRow_new (W : World) (k : Int) (t : ByteArray) (n : Int) (v : Value) : ExRow (W.alloc (.cells #[.int .i64 k, .string t, .int .i64 n, v] 26)) W.heap.size k t n v := heap_alloc_new W _

theorem ExRow.alloc {W : World} {R : Nat} {k : Int} {t : ByteArray} {n : Int} {v : Value} (h : ExRow W R k t n v) (o : Obj) : ExRow (W.alloc o) R k t n v := by
  have hb : Below W.heap.size W (W.alloc o) := (Below.refl _ _).alloc (Nat.le_refl _) o
  exact h.kept (row := none) ⟨hb.os, hb.tape, hb.output, hb.size, fun k hk _ => hb.block k hk⟩ (by simp)

theorem ExRow.below {W W' : World} {R : Nat} {k : Int} {t : ByteArray} {n : Int} {v : Value} (h : ExRow W R k t n v) (hb : Below W.heap.size W W') : ExRow W' R k t n v :=
  h.kept (row := none) ⟨hb.os, hb.tape, hb.output, hb.size, fun k hk _ => hb.block k hk⟩ (by simp)

theorem ExRow.set3 {W : World} {R : Nat} {k : Int} {t : ByteArray} {n : Int} {v : Value} (h : ExRow W R k t n v) (u : Value) : ExRow (W.setCell ⟨R, 3, none⟩ u) R k t n u := by
  unfold ExRow at h ⊢
  show (W.heap.modify R _)[R]? = _
  rw [Array.getElem?_modify, if_pos rfl, h]
  rfl

theorem ExRow.set1 {W : World} {R : Nat} {k : Int} {t : ByteArray} {n : Int} {v : Value} (h : ExRow W R k t n v) (u : ByteArray) : ExRow (W.setCell ⟨R, 1, none⟩ (.string u)) R k u n v := by
  unfold ExRow at h ⊢
  show (W.heap.modify R _)[R]? = _
  rw [Array.getElem?_modify, if_pos rfl, h]
  rfl

theorem ExRow.set2 {W : World} {R : Nat} {k : Int} {t : ByteArray} {n : Int} {v : Value} (h : ExRow W R k t n v) (u : Int) : ExRow (W.setCell ⟨R, 2, none⟩ (.int .i64 u)) R k t u v := by
  unfold ExRow at h ⊢
  show (W.heap.modify R _)[R]? = _
  rw [Array.getElem?_modify, if_pos rfl, h]
  rfl

theorem ExRow.set0 {W : World} {R : Nat} {k : Int} {t : ByteArray} {n : Int} {v : Value} (h : ExRow W R k t n v) (u : Int) : ExRow (W.setCell ⟨R, 0, none⟩ (.int .i64 u)) R u t n v := by
  unfold ExRow at h ⊢
  show (W.heap.modify R _)[R]? = _
  rw [Array.getElem?_modify, if_pos rfl, h]
  rfl

theorem ExRow.setO {W : World} {R R' : Nat} {k : Int} {t : ByteArray} {n : Int} {v : Value} (h : ExRow W R k t n v) (hne : R' ≠ R) (j : Nat) (u : Value) : ExRow (W.setCell ⟨R', j, none⟩ u) R k t n v :=
  h.kept (grown_set W R' j u) (fun e => hne (by cases e; rfl))

/-- The draw's state, and what has turned since w. -/
def DGE (w0 : World) (a : Option Addr) (c : Nat) (l : List UInt8) (g : Nat) (w W : World) : Prop := Deck w0 a c l g W ∧ w.grownBy W (some g)

theorem DGE.set {w0 : World} {a : Option Addr} {c : Nat} {l : List UInt8} {g : Nat} {w W : World} (h : DGE w0 a c l g w W) (hw0 : w0.heap.size ≤ w.heap.size) {R : Nat} (hR : w.heap.size ≤ R) (hne : R ≠ g) (j : Nat) (v : Value) : DGE w0 a c l g w (W.setCell ⟨R, j, none⟩ v) :=
  ⟨h.1.kept (grown_set W R j v) (fun k hk => by cases hk; exact ⟨by omega, hne⟩), h.2.andThen (grown_set W R j v) (fun k hk => by cases hk; exact .inl hR)⟩

theorem DGE.alloc {w0 : World} {a : Option Addr} {c : Nat} {l : List UInt8} {g : Nat} {w W : World} (h : DGE w0 a c l g w W) (o : Obj) : DGE w0 a c l g w (W.alloc o) := ⟨h.1.alloc o, grown_alloc h.2 o⟩
theorem DGE.below {w0 : World} {a : Option Addr} {c : Nat} {l : List UInt8} {g : Nat} {w W W' : World} (h : DGE w0 a c l g w W) (hb : Below W.heap.size W W') : DGE w0 a c l g w W' := ⟨h.1.belowed hb, grown_below h.2 hb⟩
theorem DGE.next {w0 : World} {a : Option Addr} {c : Nat} {l : List UInt8} {g : Nat} {w W W' : World} (h : DGE w0 a c l g w W) (hd : Deck w0 a c l g W') (hg : W.grownBy W' (some g)) : DGE w0 a c l g w W' := ⟨hd, grown_trans h.2 hg⟩
theorem DGE.start {w0 : World} {a : Option Addr} {c : Nat} {l : List UInt8} {g : Nat} {w : World} (h : Deck w0 a c l g w) : DGE w0 a c l g w w := ⟨h, ⟨rfl, rfl, rfl, Nat.le_refl _, fun _ _ _ => rfl⟩⟩
theorem DGE.row {w0 : World} {a : Option Addr} {c : Nat} {l : List UInt8} {g : Nat} {w W W' : World} {row : Option Nat} (h : DGE w0 a c l g w W) (hw0 : w0.heap.size ≤ w.heap.size) (hg : W.grownBy W' row) (hr : ∀ k, row = some k → w.heap.size ≤ k ∧ k ≠ g) : DGE w0 a c l g w W' :=
  ⟨h.1.kept hg (fun k hk => ⟨by have := (hr k hk).1; omega, (hr k hk).2⟩), h.2.andThen hg (fun k hk => .inl (hr k hk).1)⟩

def eOf (k : Int) (t : ByteArray) (n : Int) (es : List Es) : Ex := .mk k t n (es.map Es.e)

/-- A small tree. -/
def Sm (e : Ex) (N : Nat) : Prop := e.fit ∧ e.wt ≤ 64 * e.nodes ∧ e.nodes ≤ N

/-- A small tree, and its kids are. -/
def SmM (e : Ex) (N : Nat) : Prop := Sm e N ∧ e.text.size ≤ 60 ∧ e.kids.length ≤ 2 ∧ wtL e.kids ≤ 64 * nodesL e.kids

/-- What a draw of an expression answers. -/
def MadeE (w0 : World) (a : Option Addr) (c : Nat) (l : List UInt8) (g : Nat) (w : World) (P : Ex → Prop) (x : Ending) (w' : World) : Prop :=
  ∃ (k : Int) (t : ByteArray) (n : Int) (es : List Es) (a' : Option Addr) (c' : Nat), x = .returned (.agg #[.int .i64 k, .string t, .int .i64 n, .slice a' es.length c']) ∧ Row w.heap.size w' a' c' es ∧ P (eOf k t n es) ∧ DGE w0 a c l g w w'

def texts10n : List ByteArray := [⟨#[97]⟩, ⟨#[98]⟩, ⟨#[105, 100]⟩, ⟨#[110, 97, 109, 101]⟩, ⟨#[116, 49]⟩, ⟨#[105, 116, 101, 109]⟩, ⟨#[66, 105, 103]⟩, ⟨#[116, 119, 111, 32, 119, 111, 114, 100, 115]⟩, ⟨#[116, 97, 98, 108, 101]⟩, ⟨#[120, 95, 49]⟩]
theorem texts10n_small : ∀ s ∈ texts10n, s.size ≤ 60 := by unfold texts10n; decide

set_option maxHeartbeats 1000000 in
theorem l03NameS {w0 : World} {a : Option Addr} {c : Nat} {l : List UInt8} {g : Nat} {w : World} (hd : Deck w0 a c l g w) :
    Calls Tryd.prog 79 #[.pointer (some ⟨g, 0, none⟩)] w (Drawn w0 a c l g w (fun v => ∃ s, v = .string s ∧ s.size ≤ 60)) := by
  go_enter Tryd.func79, Tryd.ntmps79
  go_wp2_with fail
  refine (pickLit hd texts10n 10 rfl (fun s hs => by have := texts10n_small s hs; unfold maxLen; omega) (by decide) (by decide) _ rfl).mono ?_
  rintro e w1 ⟨v, ⟨s, rfl, hs⟩, rfl, hd1, hg1⟩
  have hss := texts10n_small s hs
  go_wp2_with fail
  go_ret
  exact ⟨_, ⟨s, rfl, hss⟩, rfl, hd1, (DGE.start hd).alloc _ |>.next hd1 hg1 |>.2⟩

theorem size_allocE (w : World) (o : Obj) : (w.alloc o).heap.size = w.heap.size + 1 := by simp

/-- A list laid behind one new block. -/
theorem pickLit1 {w0 : World} {a : Option Addr} {c : Nat} {l : List UInt8} {g : Nat} {w : World} (hd : Deck w0 a c l g w) (o : Obj) (xs : List ByteArray) (n : Nat) (hl : n = xs.length) (hs : ∀ s ∈ xs, s.size ≤ maxLen) (h0 : 1 ≤ xs.length) (h1 : xs.length ≤ 1000000) (cs : Array Value) (hcs : cs = (xs.map Value.string).toArray) :
    Calls Tryd.prog 25 #[.pointer (some ⟨g, 0, none⟩), .slice (some ⟨w.heap.size + 1, 0, none⟩) n n] ((w.alloc o).alloc (.cells cs 9)) (Drawn w0 a c l g ((w.alloc o).alloc (.cells cs 9)) (TextIn xs)) := by
  have := pickLit (hd.alloc o) xs n hl hs h0 h1 cs hcs
  rw [size_allocE] at this
  exact this

end Go.Proofs.YtpdcmmhhgnackaaDoor

namespace Go.Proofs.YtpdcmmhhgnackaaDoor
open Go.RowKit

def inV (x lo hi : Int) : Bool := decide (lo ≤ x) && decide (x ≤ hi)

theorem specInW (x lo hi : Int) (w : World) : Calls Tryd.prog 51 #[.int .i64 x, .int .i64 lo, .int .i64 hi] w fun e w' => e = .returned (.bool (inV x lo hi)) ∧ w = w' := by
  by_cases h1 : lo ≤ x
  · have H : Hid (inV x lo hi = decide (x ≤ hi)) := by unfold Hid inV; simp [h1]
    go_enter Tryd.func51, Tryd.ntmps51
    go_wp2
    go_ret
    exact ⟨by rw [H.out]; rfl, rfl⟩
  · have H : Hid (inV x lo hi = false) := by unfold Hid inV; simp [h1]
    have ht : decide (lo ≤ x) = false := by simp; omega
    go_enter Tryd.func51, Tryd.ntmps51
    go_wp2
    go_ret
    exact ⟨by rw [H.out]; rfl, rfl⟩

theorem specInV (x lo hi : Int) (w : World) (v : Bool) (h : inV x lo hi = v) : Calls Tryd.prog 51 #[.int .i64 x, .int .i64 lo, .int .i64 hi] w fun e w' => e = .returned (.bool v) ∧ w = w' := h ▸ specInW x lo hi w

def kidsV (k : Int) : Int := if k < 0 ∨ 18 < k then -1 else if k ≤ 5 then 0 else if k ≤ 7 then 1 else 2

set_option maxHeartbeats 1000000 in
theorem specKidsV (k : Int) (w : World) (v : Int) (hv : kidsV k = v) :
    Calls Tryd.prog 80 #[.int .i64 k] w fun e w' => e = .returned (.int .i64 v) ∧ w = w' := by
  unfold kidsV at hv
  by_cases h1 : k < 0 ∨ 18 < k
  · rw [if_pos h1] at hv
    subst hv
    have H1 : Hid (inV k 0 18 = false) := by unfold Hid inV; simp; omega
    clear h1
    go_enter Tryd.func80, Tryd.ntmps80
    go_wp2_with (go_at_call 51; refine (specInV _ 0 18 _ false H1.out).mono ?_; rintro e w' ⟨rfl, rfl⟩)
    go_ret
    exact ⟨rfl, rfl⟩
  · rw [if_neg h1] at hv
    have H1 : Hid (inV k 0 18 = true) := by unfold Hid inV; simp; omega
    by_cases h5 : k ≤ 5
    · rw [if_pos h5] at hv
      subst hv
      clear h1
      go_enter Tryd.func80, Tryd.ntmps80
      go_wp2_with (go_at_call 51; refine (specInV _ 0 18 _ true H1.out).mono ?_; rintro e w' ⟨rfl, rfl⟩)
      go_ret
      exact ⟨rfl, rfl⟩
    · rw [if_neg h5] at hv
      by_cases h7 : k ≤ 7
      · rw [if_pos h7] at hv
        subst hv
        clear h1
        go_enter Tryd.func80, Tryd.ntmps80
        go_wp2_with (go_at_call 51; refine (specInV _ 0 18 _ true H1.out).mono ?_; rintro e w' ⟨rfl, rfl⟩)
        go_ret
        exact ⟨rfl, rfl⟩
      · rw [if_neg h7] at hv
        subst hv
        clear h1
        go_enter Tryd.func80, Tryd.ntmps80
        go_wp2_with (go_at_call 51; refine (specInV _ 0 18 _ true H1.out).mono ?_; rintro e w' ⟨rfl, rfl⟩)
        go_ret
        exact ⟨rfl, rfl⟩

end Go.Proofs.YtpdcmmhhgnackaaDoor

namespace Go.Proofs.YtpdcmmhhgnackaaDoor
open Go.RowKit

theorem below_drewE {B : Nat} {a w : World} (h : Below B a w) : Below B a w.drew := ⟨h.os, h.tape, h.output, h.size, h.block⟩

def EqP (d : Nat) : Prop := ∀ (e : Ex) (a a' : Option Addr) (c c' : Nat) (w : World), KidsAt w d a c e.kids → KidsAt w d a' c' e.kids →
  Calls Tryd.prog 110 #[.agg #[.int .i64 e.kind, .string e.text, .int .i64 e.num, .slice a e.kids.length c], .agg #[.int .i64 e.kind, .string e.text, .int .i64 e.num, .slice a' e.kids.length c']] w fun x w' => x = .returned (.bool true) ∧ Below w.heap.size w w'

set_option maxHeartbeats 1000000 in
theorem eqKids (d : Nat) (ih : EqP d) (a a' : Option Addr) (c c' : Nat) (xs : List Ex) (w : World) (hx : KidsAt w (d + 1) a c xs) (hy : KidsAt w (d + 1) a' c' xs) :
    Calls Tryd.prog 66 #[.slice a xs.length c, .slice a' xs.length c'] w fun e w' => e = .returned (.bool true) ∧ Below w.heap.size w w' := by
  have hl := hx.len
  have hne : (((xs.length : Int)) != (xs.length : Int)) = false := by simp
  go_enter Tryd.func66, Tryd.ntmps66
  go_wp2
  go_loopw [5] (fun i wr => ∃ k : Nat, k ≤ xs.length ∧ i = .int .i64 k ∧ Below w.heap.size w wr) (fun i _ => xs.length - (intOf i).toNat)
  case atStart => exact ⟨0, Nat.zero_le _, rfl, Below.refl _ _⟩
  case round =>
    obtain ⟨k, hk, rfl, hbw⟩ := hrel
    by_cases hlt : k < xs.length
    · obtain ⟨b, off, rfl, hbl, hc0, hc1, hc2, _, p, q, hc3, hkid⟩ := (hx.below hbw).spot hlt
      obtain ⟨b', off', rfl, hbl', hd0, hd1, hd2, _, p', q', hd3, hkid'⟩ := (hy.below hbw).spot hlt
      have h0k : (0 : Int) ≤ (k : Int) := by omega
      have hkl : (k : Int) < (xs.length : Int) := by omega
      have HX := Lib.hid (fun w' hb => hkid.below (w' := w') hb)
      have HY := Lib.hid (fun w' hb => hkid'.below (w' := w') hb)
      clear hkid hkid' hx hy
      go_wp2_with fail
      go_region_held3 (fun w' => w'.cell? ⟨b, off + k * 4, none⟩ = some (.int .i64 xs[k].kind) ∧ w'.cell? ⟨b, off + k * 4 + 1, none⟩ = some (.string xs[k].text) ∧ w'.cell? ⟨b, off + k * 4 + 2, none⟩ = some (.int .i64 xs[k].num) ∧ w'.cell? ⟨b, off + k * 4 + 3, none⟩ = some (.slice p xs[k].kids.length q) ∧ w'.cell? ⟨b', off' + k * 4, none⟩ = some (.int .i64 xs[k].kind) ∧ w'.cell? ⟨b', off' + k * 4 + 1, none⟩ = some (.string xs[k].text) ∧ w'.cell? ⟨b', off' + k * 4 + 2, none⟩ = some (.int .i64 xs[k].num) ∧ w'.cell? ⟨b', off' + k * 4 + 3, none⟩ = some (.slice p' xs[k].kids.length q')) (first | go_keep | exact ⟨(hcw _ _ hbl).trans hc0, (hcw _ _ hbl).trans hc1, (hcw _ _ hbl).trans hc2, (hcw _ _ hbl).trans hc3, (hcw _ _ hbl').trans hd0, (hcw _ _ hbl').trans hd1, (hcw _ _ hbl').trans hd2, (hcw _ _ hbl').trans hd3⟩)
        ((go_at_call 110; refine (ih xs[k] p p' q q' _ (HX.out _ (below_drewE (Below.refl _ _))) (HY.out _ (below_drewE (Below.refl _ _)))).mono ?_; rintro e w2 ⟨rfl, hb2⟩; obtain ⟨hcw, _⟩ := bcellE hb2))
      go_wp2_with fail
      go_roundw
      case rel => exact ⟨k + 1, by omega, by go_num, (below_drewE hbw).trans (hb2.mono hbw.size)⟩
      case measure => simp [intOf]; omega
    · go_wp2
      go_ret
      exact ⟨rfl, hbw⟩

set_option maxHeartbeats 1000000 in
theorem eqEx : ∀ d, EqP d
  | 0 => fun _ _ _ _ _ _ h => h.elim
  | d + 1 => by
    intro e a a' c c' w hx hy
    have hks := eqKids d (eqEx d) a a' c c' e.kids
    have HX := Lib.hid (fun w' hb => hx.below (w' := w') hb)
    have HY := Lib.hid (fun w' hb => hy.below (w' := w') hb)
    have hk : (e.kind != e.kind) = false := by simp
    have hp : (e.num != e.num) = false := by simp
    have hs : (!(e.text.toList == e.text.toList)) = false := by simp
    have hl := hx.len
    clear hx hy
    go_enter Tryd.func110, Tryd.ntmps110
    go_wp2_with fail
    refine (hks _ (HX.out _ (((Below.refl _ _).alloc (Nat.le_refl _) _).alloc (by simp) _)) (HY.out _ (((Below.refl _ _).alloc (Nat.le_refl _) _).alloc (by simp) _))).mono ?_
    rintro x w2 ⟨rfl, hb2⟩
    go_wp2_with fail
    go_ret
    exact ⟨rfl, (((Below.refl _ _).alloc (Nat.le_refl _) _).alloc (by simp) _).trans (hb2.mono (by simp; omega))⟩

end Go.Proofs.YtpdcmmhhgnackaaDoor
