/- The model's reader of expressions: l04Any. -/
/- Expressions: how much a tree that is read holds. -/
/- The laws' own helpers over slices of words: the size that is left. -/
/- spec.ParseExpr reads what parseI says, where the words are Lex's. -/
/- What is read is read again from the words up to its end. -/
/- Rows of the call's own that grow. -/
/- spec.Join and impl.Join (over strings.Join) both answer the texts with another between them. -/
import Derived.Test.YtgnillmhpockkaaGreatDoorMSpcA
import Derived.Test.YtgnillmhpockkaaGreatDoorMExprN
import Derived.Test.YtgnillmhpockkaaGreatDoorMMem
import Derived.Test.YtgnillmhpockkaaGreatDoorMDrawNodes
import Derived.Test.YtgnillmhpockkaaGreatDoorMLexP
import Derived.Test.YtgnillmhpockkaaGreatDoorMShelf
import Derived.Lib.Join
namespace Go.Proofs.YtgnillmhpockkaaGreatDoor
open Go.RowKit

/-- A row of two expressions, as a literal makes it. -/
theorem TrQ.node2 {w : World} {q : Nat → Prop} {e s : Ex} {a b : Option Addr} {c d : Nat} (h : TrQ w q e a c) (h' : TrQ w q s b d) {k : Int} (hk : i64E k) (hq : q w.heap.size) :
    TrQ (w.alloc (.cells #[.int .i64 e.kind, .string e.text, .int .i64 e.num, .slice a e.kids.length c, .int .i64 s.kind, .string s.text, .int .i64 s.num, .slice b s.kids.length d] 32)) q (node k [e, s]) (some ⟨w.heap.size, 0, none⟩) 2 := by
  refine ⟨⟨by unfold maxLen; exact Nat.zero_le _, hk, by show i64E 0; unfold i64E; omega⟩, ?_⟩
  have hrow : (w.alloc (.cells #[.int .i64 e.kind, .string e.text, .int .i64 e.num, .slice a e.kids.length c, .int .i64 s.kind, .string s.text, .int .i64 s.num, .slice b s.kids.length d] 32)).ownsRow w.heap.size 32 4 (.slice (some ⟨w.heap.size, 0, none⟩) 2 2) 2 (ecells [⟨e, a, c⟩, ⟨s, b, d⟩]) :=
    World.ownsRow_lit (base := w.heap.size) (e := 32) (size := 4) w #[.int .i64 e.kind, .string e.text, .int .i64 e.num, .slice a e.kids.length c, .int .i64 s.kind, .string s.text, .int .i64 s.num, .slice b s.kids.length d] 2 (Nat.le_refl _) (by unfold maxLen; omega) rfl
  have := kids_row (es := [⟨e, a, c⟩, ⟨s, b, d⟩]) hrow hq (fun x hx => by
    simp only [List.mem_cons, List.not_mem_nil, or_false] at hx
    rcases hx with rfl | rfl
    · exact h.below ((Below.refl _ _).alloc (Nat.le_refl _) _)
    · exact h'.below ((Below.refl _ _).alloc (Nat.le_refl _) _))
  exact this

/-- One round of the loop, pure. -/
theorem loop_head (g L m : Nat) (e : Ex) (l : List Tk) : loopP (g + 1) L e (left l m) =
    if L = 4 ∧ hdW (left l m) wIs = true ∧ hdW (left l (m + 1)) wNull = true then (node 7 [e], left l (m + 2))
    else match nxK l m L with
      | none => (e, left l m)
      | some k => match anyP g (L + 1) (left l (m + 1)) with
        | none => (e, left l m)
        | some (s, r'') => if L = 4 then (node k [e, s], r'') else loopP g L (node k [e, s]) r'' := by
  have h1 : left l (m + 1) = (left l m).tail := (left_tail l m).symm
  have h2 : left l (m + 2) = (left l (m + 1)).tail := (left_tail l (m + 1)).symm
  rw [h2, h1]
  unfold nxK
  cases left l m with
  | nil => rw [loopP]; rw [if_neg (fun h => by cases h.2.1)]
  | cons x r => rw [loopP]; rfl

/-- The answer is a new node over one tree, stored into the answer's box ahead of the row of its kids. -/
theorem AnyR.one {w V : World} {l : List Tk} {e : Ex} {ea : Option Addr} {ec m : Nat} {k mi : Int} (ht : TrQ V (fun b => w.heap.size < b) e ea ec) (hb : Below w.heap.size w V) (hw : w.heap.size < V.heap.size) (hk : i64E k) (hm : m ≤ l.length) (hmi : mi = (m : Int)) {v0 v1 v2 v3 : Value} :
    AnyR w l (some (node k [e], left l m)) (.returned (.tuple #[.agg #[.int .i64 k, .string ⟨#[]⟩, .int .i64 0, .slice (some ⟨V.heap.size, 0, none⟩) 1 1], .int .i64 mi])) (((((V.setCell ⟨w.heap.size, 0, none⟩ v0).setCell ⟨w.heap.size, 1, none⟩ v1).setCell ⟨w.heap.size, 2, none⟩ v2).setCell ⟨w.heap.size, 3, none⟩ v3).alloc (.cells #[.int .i64 e.kind, .string e.text, .int .i64 e.num, .slice ea e.kids.length ec] 32)) := by
  have hq : ¬ w.heap.size < w.heap.size := Nat.lt_irrefl _
  have h4 := (((ht.set hq 0 v0).set hq 1 v1).set hq 2 v2).set hq 3 v3
  have hb4 := (((hb.setCell (p := ⟨w.heap.size, 0, none⟩) (Nat.le_refl _) v0).setCell (p := ⟨w.heap.size, 1, none⟩) (Nat.le_refl _) v1).setCell (p := ⟨w.heap.size, 2, none⟩) (Nat.le_refl _) v2).setCell (p := ⟨w.heap.size, 3, none⟩) (Nat.le_refl _) v3
  have hs : ((((V.setCell ⟨w.heap.size, 0, none⟩ v0).setCell ⟨w.heap.size, 1, none⟩ v1).setCell ⟨w.heap.size, 2, none⟩ v2).setCell ⟨w.heap.size, 3, none⟩ v3).heap.size = V.heap.size := by simp [World.setCell]
  generalize (((V.setCell ⟨w.heap.size, 0, none⟩ v0).setCell ⟨w.heap.size, 1, none⟩ v1).setCell ⟨w.heap.size, 2, none⟩ v2).setCell ⟨w.heap.size, 3, none⟩ v3 = V4 at *
  have hn := h4.node1 hk (by omega)
  rw [hs] at hn
  exact ⟨_, 1, m, mi, rfl, hmi, rfl, hm, hn.imp fun b hb _ => by omega, hb4.alloc (by omega) _⟩

/-- What stands in the loop. -/
structure AyS (w : World) (a : Option Addr) (c : Nat) (l : List Tk) (X L : Nat) (fin : Ex × List W) (g m : Nat) (e : Ex) (ea : Option Addr) (ec : Nat) (V : World) : Prop where
  r : ExRow V w.heap.size 0 ⟨#[]⟩ 0 (.slice none 0 0)
  x : ExRow V X e.kind e.text e.num (.slice ea e.kids.length ec)
  tr : TrQ V (fun b => w.heap.size < b ∧ b ≠ X) e ea ec
  tok : Toks V a c l
  bel : Below w.heap.size w V
  hX : w.heap.size < X
  fuel : enoughL g L (left l m)
  fin : loopP g L e (left l m) = fin

theorem AyS.below {w : World} {a : Option Addr} {c : Nat} {l : List Tk} {X L : Nat} {fin : Ex × List W} {g m : Nat} {e : Ex} {ea : Option Addr} {ec : Nat} {V V' : World} (h : AyS w a c l X L fin g m e ea ec V) (hb : Below V.heap.size V V') : AyS w a c l X L fin g m e ea ec V' :=
  ⟨h.r.below hb, h.x.below hb, h.tr.below hb, h.tok.below hb, h.bel.trans (hb.mono h.bel.size), h.hX, h.fuel, h.fin⟩

/-- One operation more. -/
theorem AyS.step {w : World} {a : Option Addr} {c : Nat} {l : List Tk} {X L : Nat} {fin : Ex × List W} {g m : Nat} {e : Ex} {ea : Option Addr} {ec : Nat} {V : World} (h : AyS w a c l X L fin (g + 1) m e ea ec V) (hT : Toks w a c l) {s : Ex} {sa : Option Addr} {sc : Nat} (hs : TrQ V (fun b => X < b) s sa sc) {k : Int} (hk : i64E k) {m2 : Nat} (hf : enoughL g L (left l m2)) (hfin : loopP g L (node k [e, s]) (left l m2) = fin) {U : World}
    (hU : U = (((((V.setCell ⟨X, 0, none⟩ (.int .i64 k)).setCell ⟨X, 1, none⟩ (.string ⟨#[]⟩)).setCell ⟨X, 2, none⟩ (.int .i64 0)).setCell ⟨X, 3, none⟩ (.slice (some ⟨V.heap.size + 1, 0, none⟩) 2 2)).alloc (.cells #[.int .i64 s.kind, .string s.text, .int .i64 s.num, .slice sa s.kids.length sc] 32)).alloc (.cells #[.int .i64 e.kind, .string e.text, .int .i64 e.num, .slice ea e.kids.length ec, .int .i64 s.kind, .string s.text, .int .i64 s.num, .slice sa s.kids.length sc] 32)) :
    AyS w a c l X L fin g m2 (node k [e, s]) (some ⟨V.heap.size + 1, 0, none⟩) 2 U := by
  have hX := h.hX
  have hXl := h.x.lt
  obtain ⟨V4, hV4⟩ : ∃ V4, V4 = (((V.setCell ⟨X, 0, none⟩ (.int .i64 k)).setCell ⟨X, 1, none⟩ (.string ⟨#[]⟩)).setCell ⟨X, 2, none⟩ (.int .i64 0)).setCell ⟨X, 3, none⟩ (.slice (some ⟨V.heap.size + 1, 0, none⟩) 2 2) := ⟨_, rfl⟩
  rw [← hV4] at hU
  have hx4 : ExRow V4 X k ⟨#[]⟩ 0 (.slice (some ⟨V.heap.size + 1, 0, none⟩) 2 2) := by rw [hV4]; exact (((h.x.set0 _).set1 _).set2 _).set3 _
  have hr4 : ExRow V4 w.heap.size 0 ⟨#[]⟩ 0 (.slice none 0 0) := by rw [hV4]; exact (((h.r.setO (by omega) _ _).setO (by omega) _ _).setO (by omega) _ _).setO (by omega) _ _
  have hs4 : V4.heap.size = V.heap.size := by rw [hV4]; simp [World.setCell]
  have hb4 : Below w.heap.size w V4 := by
    rw [hV4]
    exact (((h.bel.setCell (p := ⟨X, 0, none⟩) (by show _ ≤ X; omega) _).setCell (p := ⟨X, 1, none⟩) (by show _ ≤ X; omega) _).setCell (p := ⟨X, 2, none⟩) (by show _ ≤ X; omega) _).setCell (p := ⟨X, 3, none⟩) (by show _ ≤ X; omega) _
  have he4 : TrQ V4 (fun b => w.heap.size < b ∧ b ≠ X) e ea ec := by
    have hq : ¬ (w.heap.size < X ∧ X ≠ X) := fun h => h.2 rfl
    rw [hV4]
    exact (((h.tr.set hq 0 _).set hq 1 _).set hq 2 _).set hq 3 _
  have ht4 : TrQ V4 (fun b => w.heap.size < b ∧ b ≠ X) s sa sc := by
    have hq : ¬ (X < X) := Nat.lt_irrefl _
    rw [hV4]
    exact ((((hs.set hq 0 _).set hq 1 _).set hq 2 _).set hq 3 _).imp fun b hb _ => ⟨by omega, by omega⟩
  obtain ⟨V5, hV5⟩ : ∃ V5, V5 = V4.alloc (.cells #[.int .i64 s.kind, .string s.text, .int .i64 s.num, .slice sa s.kids.length sc] 32) := ⟨_, rfl⟩
  rw [← hV5] at hU
  have hb5 : Below V4.heap.size V4 V5 := by rw [hV5]; exact (Below.refl _ _).alloc (Nat.le_refl _) _
  have hs5 : V5.heap.size = V.heap.size + 1 := by rw [hV5, size_allocE, hs4]
  have hn := (he4.below hb5).node2 (ht4.below hb5) hk (by constructor <;> omega)
  rw [hs5, ← hU] at hn
  have hb6 : Below V5.heap.size V5 U := by rw [hU]; exact (Below.refl _ _).alloc (Nat.le_refl _) _
  have hbU : Below w.heap.size w U := (hb4.trans (hb5.mono hb4.size)).trans (hb6.mono (Nat.le_trans hb4.size hb5.size))
  exact ⟨(hr4.below hb5).below hb6, (hx4.below hb5).below hb6, hn, hT.below hbU, hbU, hX, hf, hfin⟩

/-- One operation more, which is the last. -/
theorem AyS.last {w : World} {a : Option Addr} {c : Nat} {l : List Tk} {X L : Nat} {fin : Ex × List W} {g m : Nat} {e : Ex} {ea : Option Addr} {ec : Nat} {V : World} (h : AyS w a c l X L fin (g + 1) m e ea ec V) {s : Ex} {sa : Option Addr} {sc : Nat} (hs : TrQ V (fun b => X < b) s sa sc) {k : Int} (hk : i64E k) {m2 : Nat} (hm : m2 ≤ l.length) {v0 v1 v2 v3 u0 u1 u2 u3 : Value} :
    AnyR w l (some (node k [e, s], left l m2)) (.returned (.tuple #[.agg #[.int .i64 k, .string ⟨#[]⟩, .int .i64 0, .slice (some ⟨V.heap.size + 1, 0, none⟩) 2 2], .int .i64 (m2 : Int)]))
      ((((((((((V.setCell ⟨X, 0, none⟩ u0).setCell ⟨X, 1, none⟩ u1).setCell ⟨X, 2, none⟩ u2).setCell ⟨X, 3, none⟩ u3).setCell ⟨w.heap.size, 0, none⟩ v0).setCell ⟨w.heap.size, 1, none⟩ v1).setCell ⟨w.heap.size, 2, none⟩ v2).setCell ⟨w.heap.size, 3, none⟩ v3).alloc (.cells #[.int .i64 s.kind, .string s.text, .int .i64 s.num, .slice sa s.kids.length sc] 32)).alloc (.cells #[.int .i64 e.kind, .string e.text, .int .i64 e.num, .slice ea e.kids.length ec, .int .i64 s.kind, .string s.text, .int .i64 s.num, .slice sa s.kids.length sc] 32)) := by
  have hX := h.hX
  obtain ⟨V4, hV4⟩ : ∃ V4, V4 = (((V.setCell ⟨X, 0, none⟩ u0).setCell ⟨X, 1, none⟩ u1).setCell ⟨X, 2, none⟩ u2).setCell ⟨X, 3, none⟩ u3 := ⟨_, rfl⟩
  rw [← hV4]
  have hs4 : V4.heap.size = V.heap.size := by rw [hV4]; simp [World.setCell]
  have hb4 : Below w.heap.size w V4 := by
    rw [hV4]
    exact (((h.bel.setCell (p := ⟨X, 0, none⟩) (by show _ ≤ X; omega) _).setCell (p := ⟨X, 1, none⟩) (by show _ ≤ X; omega) _).setCell (p := ⟨X, 2, none⟩) (by show _ ≤ X; omega) _).setCell (p := ⟨X, 3, none⟩) (by show _ ≤ X; omega) _
  have he4 : TrQ V4 (fun b => w.heap.size < b) e ea ec := by
    have hq : ¬ (w.heap.size < X ∧ X ≠ X) := fun h => h.2 rfl
    rw [hV4]
    exact ((((h.tr.set hq 0 _).set hq 1 _).set hq 2 _).set hq 3 _).imp fun b hb _ => hb.1
  have ht4 : TrQ V4 (fun b => w.heap.size < b) s sa sc := by
    have hq : ¬ (X < X) := Nat.lt_irrefl _
    rw [hV4]
    exact ((((hs.set hq 0 _).set hq 1 _).set hq 2 _).set hq 3 _).imp fun b hb _ => by omega
  obtain ⟨V8, hV8⟩ : ∃ V8, V8 = (((V4.setCell ⟨w.heap.size, 0, none⟩ v0).setCell ⟨w.heap.size, 1, none⟩ v1).setCell ⟨w.heap.size, 2, none⟩ v2).setCell ⟨w.heap.size, 3, none⟩ v3 := ⟨_, rfl⟩
  rw [← hV8]
  have hs8 : V8.heap.size = V.heap.size := by rw [hV8, ← hs4]; simp [World.setCell]
  have hb8 : Below w.heap.size w V8 := by
    rw [hV8]
    exact (((hb4.setCell (p := ⟨w.heap.size, 0, none⟩) (Nat.le_refl _) _).setCell (p := ⟨w.heap.size, 1, none⟩) (Nat.le_refl _) _).setCell (p := ⟨w.heap.size, 2, none⟩) (Nat.le_refl _) _).setCell (p := ⟨w.heap.size, 3, none⟩) (Nat.le_refl _) _
  have hq : ¬ w.heap.size < w.heap.size := Nat.lt_irrefl _
  have he8 : TrQ V8 (fun b => w.heap.size < b) e ea ec := by rw [hV8]; exact (((he4.set hq 0 _).set hq 1 _).set hq 2 _).set hq 3 _
  have ht8 : TrQ V8 (fun b => w.heap.size < b) s sa sc := by rw [hV8]; exact (((ht4.set hq 0 _).set hq 1 _).set hq 2 _).set hq 3 _
  have hXl := h.x.lt
  obtain ⟨V9, hV9⟩ : ∃ V9, V9 = V8.alloc (.cells #[.int .i64 s.kind, .string s.text, .int .i64 s.num, .slice sa s.kids.length sc] 32) := ⟨_, rfl⟩
  rw [← hV9]
  have hb9 : Below V8.heap.size V8 V9 := by rw [hV9]; exact (Below.refl _ _).alloc (Nat.le_refl _) _
  have hs9 : V9.heap.size = V.heap.size + 1 := by rw [hV9, size_allocE, hs8]
  have hn := (he8.below hb9).node2 (ht8.below hb9) hk (by omega)
  rw [hs9] at hn
  have hb10 := (Below.refl V9.heap.size V9).alloc (Nat.le_refl _) (.cells #[.int .i64 e.kind, .string e.text, .int .i64 e.num, .slice ea e.kids.length ec, .int .i64 s.kind, .string s.text, .int .i64 s.num, .slice sa s.kids.length sc] 32)
  exact ⟨_, 2, m2, _, rfl, rfl, rfl, hm, hn.imp fun b hb _ => by omega, (hb8.trans (hb9.mono hb8.size)).trans (hb10.mono (Nat.le_trans hb8.size hb9.size))⟩

set_option maxRecDepth 100000 in
set_option maxHeartbeats 8000000 in
theorem spcAny7 {a : Option Addr} {c : Nat} {l : List Tk} {f : Nat} (it : AtomAt a c l f) (at_ : Nat) (w : World) (ht : Toks w a c l) (hat : at_ ≤ l.length + 1) (hen : enough (f + 1) 7 (left l at_)) :
    Calls Tryz.prog 62 #[.slice a l.length c, .int .i64 (at_ : Int), .int .i64 7] w (AnyR w l (anyP (f + 1) 7 (left l at_))) := by
  have HP : Hid (anyP (f + 1) 7 (left l at_) = atomP f (left l at_)) := by unfold Hid; rw [anyP, if_pos rfl]
  rw [HP.out]
  have HB0 := Lib.hid (show Below w.heap.size w (w.alloc (.cells #[.int .i64 0, .string ⟨#[]⟩, .int .i64 0, .slice none 0 0] 32)) from (Below.refl _ _).alloc (Nat.le_refl _) _)
  have HR0 := Lib.hid (exRow_new w 0 ⟨#[]⟩ 0 (.slice none 0 0))
  have HT := Lib.hid (ht.below HB0.out)
  have hz : Hid (w.heap.size < (w.alloc (.cells #[.int .i64 0, .string ⟨#[]⟩, .int .i64 0, .slice none 0 0] 32)).heap.size) := HR0.out.lt
  clear ht
  go_enter Tryz.func62, Tryz.ntmps62
  go_wp2_with fail
  generalize w.alloc (.cells #[.int .i64 0, .string ⟨#[]⟩, .int .i64 0, .slice none 0 0] 32) = W0 at HB0 HR0 HT hz ⊢
  refine (it at_ W0 HT.out hat (by unfold enough at hen; omega)).mono ?_
  intro x w1 hx
  unfold AnyR at hx
  cases ho : atomP f (left l at_) with
  | none =>
    rw [ho] at hx
    obtain ⟨v0, v1, v2, va, vn, vc, rfl, b1⟩ := hx
    have HB1 := Lib.hid (HB0.out.trans (b1.mono HB0.out.size))
    obtain ⟨r0, r1, r2, r3, rf⟩ := (HR0.out.below b1).cells
    clear b1
    go_wp2_with fail
    refine bodyPost_ret (v := .tuple #[.agg #[.int .i64 v0, .string v1, .int .i64 v2, .slice va vn vc], .int .i64 (-1)]) (by simp [results, Tryz.results62, go_sem, *]) rfl ?_
    rw [ho]
    exact AnyR.no HB1.out rfl
  | some z =>
    obtain ⟨e, r⟩ := z
    rw [ho] at hx
    obtain ⟨ea, ec, m, mi, rfl, rfl, rfl, hm, htr, b1⟩ := hx
    have HB1 := Lib.hid (HB0.out.trans (b1.mono HB0.out.size))
    have HTR := Lib.hid htr
    obtain ⟨r0, r1, r2, r3, rf⟩ := (HR0.out.below b1).cells
    clear b1 htr
    go_wp2_with fail
    refine bodyPost_ret (v := .tuple #[.agg #[.int .i64 e.kind, .string e.text, .int .i64 e.num, .slice ea e.kids.length ec], .int .i64 (m : Int)]) (by simp [results, Tryz.results62, go_sem, *]) rfl ?_
    rw [ho]
    exact AnyR.yes (HTR.out.imp fun b hb _ => by have := hz.out; omega) HB1.out hm rfl rfl rfl

set_option maxRecDepth 100000 in
set_option maxHeartbeats 8000000 in
theorem spcAnyNot {a : Option Addr} {c : Nat} {l : List Tk} (hl : l.length ≤ 1000000) {f : Nat} (ia : AnyAt a c l f) (at_ : Nat) (w : World) (ht : Toks w a c l) (hat : at_ ≤ l.length + 1) (hen : enough (f + 1) 3 (left l at_)) (hn : hdW (left l at_) wNot = true) :
    Calls Tryz.prog 62 #[.slice a l.length c, .int .i64 (at_ : Int), .int .i64 3] w (AnyR w l (anyP (f + 1) 3 (left l at_))) := by
  have HP : Hid (anyP (f + 1) 3 (left l at_) = match anyP f 3 (left l (at_ + 1)) with | some (k, r) => some (node 6 [k], r) | none => none) := by
    unfold Hid
    rw [anyP, if_neg (by decide), if_pos ⟨rfl, hn⟩, left_tail]
    cases anyP f 3 (left l (at_ + 1)) with
    | none => rfl
    | some q => rfl
  have hlt : at_ < l.length := by
    rcases Nat.lt_or_ge at_ l.length with h | h
    · exact h
    · rw [left_end (by omega)] at hn; cases hn
  have hen' : enough f 3 (left l (at_ + 1)) := by
    unfold enough at hen ⊢
    rw [left_len] at hen ⊢
    omega
  have HB0 := Lib.hid (show Below w.heap.size w (w.alloc (.cells #[.int .i64 0, .string ⟨#[]⟩, .int .i64 0, .slice none 0 0] 32)) from (Below.refl _ _).alloc (Nat.le_refl _) _)
  have HR0 := Lib.hid (exRow_new w 0 ⟨#[]⟩ 0 (.slice none 0 0))
  have HT := Lib.hid (ht.below HB0.out)
  have hz : Hid (w.heap.size < (w.alloc (.cells #[.int .i64 0, .string ⟨#[]⟩, .int .i64 0, .slice none 0 0] 32)).heap.size) := HR0.out.lt
  have HNT := Lib.hid hn
  clear ht hn
  go_enter Tryz.func62, Tryz.ntmps62
  go_wp2_with fail
  generalize w.alloc (.cells #[.int .i64 0, .string ⟨#[]⟩, .int .i64 0, .slice none 0 0] 32) = W0 at HB0 HR0 HT hz ⊢
  refine (specIsH HT.out hl at_ (by omega) ⟨#[110, 111, 116]⟩ true HNT.out).mono ?_
  rintro e w' ⟨rfl, rfl⟩
  have IA : Hid (Calls Tryz.prog 62 #[.slice a l.length c, .int .i64 ((at_ : Int) + 1), .int .i64 3] W0 (AnyR W0 l (anyP f 3 (left l (at_ + 1))))) := ia 3 (at_ + 1) W0 (by omega) (by omega) HT.out (by omega) hen'
  go_wp2_with fail
  refine IA.out.mono ?_
  intro x w1 hx
  unfold AnyR at hx
  cases ho : anyP f 3 (left l (at_ + 1)) with
  | none =>
    rw [ho] at hx
    obtain ⟨v0, v1, v2, va, vn, vc, rfl, b1⟩ := hx
    have HB1 := Lib.hid (HB0.out.trans (b1.mono HB0.out.size))
    have HR1 := Lib.hid (HR0.out.below b1)
    have hz1 : w.heap.size < w1.heap.size := HR1.out.lt
    have HPN : Hid (anyP (f + 1) 3 (left l at_) = none) := by unfold Hid; rw [HP.out, ho]
    obtain ⟨r0, r1, r2, r3, rf⟩ := HR1.out.cells
    clear b1
    go_wp2_with fail
    refine bodyPost_ret (v := .tuple #[.agg #[.int .i64 6, .string ⟨#[]⟩, .int .i64 0, .slice (some ⟨w1.heap.size + 1, 0, none⟩) 1 1], .int .i64 (-1)]) (by simp [results, Tryz.results62, go_sem, *]) rfl ?_
    rw [HPN.out]
    exact AnyR.no ((HB1.out.alloc HB1.out.size (.cells #[.int .i64 v0, .string v1, .int .i64 v2, .slice va vn vc] 32)).alloc (by have := HB1.out.size; simp; omega) (.cells #[.int .i64 v0, .string v1, .int .i64 v2, .slice va vn vc] 32)) (v0 := .int .i64 6) (v1 := .string ⟨#[]⟩) (v2 := .int .i64 0) (v3 := .slice (some ⟨w1.heap.size + 1, 0, none⟩) 1 1) (by simp [go_sem, hz1, Nat.ne_of_lt hz1, Nat.ne_of_lt (Nat.lt_succ_of_lt hz1)])
  | some z =>
    obtain ⟨e, r⟩ := z
    rw [ho] at hx
    obtain ⟨ea, ec, m, mi, rfl, rfl, rfl, hm, htr, b1⟩ := hx
    have HB1 := Lib.hid (HB0.out.trans (b1.mono HB0.out.size))
    have HR1 := Lib.hid (HR0.out.below b1)
    have hz1 : w.heap.size < w1.heap.size := HR1.out.lt
    have HPN : Hid (anyP (f + 1) 3 (left l at_) = some (node 6 [e], left l m)) := by unfold Hid; rw [HP.out, ho]
    have HTR : Hid (TrQ ((w1.alloc (.cells #[.int .i64 e.kind, .string e.text, .int .i64 e.num, .slice ea e.kids.length ec] 32)).alloc (.cells #[.int .i64 e.kind, .string e.text, .int .i64 e.num, .slice ea e.kids.length ec] 32)) (fun b => w.heap.size < b) (node 6 [e]) (some ⟨w1.heap.size + 1, 0, none⟩) 1) := by
      have s1 := size_allocE w1 (.cells #[.int .i64 e.kind, .string e.text, .int .i64 e.num, .slice ea e.kids.length ec] 32)
      have h := ((htr.imp (q' := fun b => w.heap.size < b) fun b hb _ => by have := hz.out; omega).below ((Below.refl _ _).alloc (Nat.le_refl _) (.cells #[.int .i64 e.kind, .string e.text, .int .i64 e.num, .slice ea e.kids.length ec] 32))).node1 (k := 6) (by unfold i64E; omega) (by rw [s1]; omega)
      rw [s1] at h
      exact h
    obtain ⟨r0, r1, r2, r3, rf⟩ := HR1.out.cells
    clear b1 htr
    go_wp2_with fail
    refine bodyPost_ret (v := .tuple #[.agg #[.int .i64 6, .string ⟨#[]⟩, .int .i64 0, .slice (some ⟨w1.heap.size + 1, 0, none⟩) 1 1], .int .i64 (m : Int)]) (by simp [results, Tryz.results62, go_sem, *]) rfl ?_
    rw [HPN.out]
    exact AnyR.yes (e := node 6 [e]) HTR.out ((HB1.out.alloc HB1.out.size (.cells #[.int .i64 e.kind, .string e.text, .int .i64 e.num, .slice ea e.kids.length ec] 32)).alloc (by have := HB1.out.size; simp; omega) (.cells #[.int .i64 e.kind, .string e.text, .int .i64 e.num, .slice ea e.kids.length ec] 32)) hm rfl rfl (v0 := .int .i64 6) (v1 := .string ⟨#[]⟩) (v2 := .int .i64 0) (v3 := .slice (some ⟨w1.heap.size + 1, 0, none⟩) 1 1) (by simp [go_sem, hz1, Nat.ne_of_lt hz1, Nat.ne_of_lt (Nat.lt_succ_of_lt hz1)])

set_option maxRecDepth 100000 in
set_option maxHeartbeats 8000000 in
theorem spcAnyLoop {a : Option Addr} {c : Nat} {l : List Tk} (hl : l.length ≤ 1000000) {f : Nat} (ia : ∀ g, g ≤ f → AnyAt a c l g) (L at_ : Nat) (w : World) (h1 : 1 ≤ L) (h6 : L ≤ 6) (ht : Toks w a c l) (hat : at_ ≤ l.length + 1) (hen : enough (f + 1) L (left l at_)) (hn : ¬ (L = 3 ∧ hdW (left l at_) wNot = true)) :
    Calls Tryz.prog 62 #[.slice a l.length c, .int .i64 (at_ : Int), .int .i64 (L : Int)] w (AnyR w l (anyP (f + 1) L (left l at_))) := by
  have HP : Hid (anyP (f + 1) L (left l at_) = match anyP f (L + 1) (left l at_) with | some (e, r) => some (loopP f L e r) | none => none) := by
    unfold Hid
    rw [anyP, if_neg (by omega), if_neg hn]
    cases anyP f (L + 1) (left l at_) with
    | none => rfl
    | some q => rfl
  have h7' : ((L : Int) == 7) = false := by simp; omega
  have HB0 := Lib.hid (show Below w.heap.size w (w.alloc (.cells #[.int .i64 0, .string ⟨#[]⟩, .int .i64 0, .slice none 0 0] 32)) from (Below.refl _ _).alloc (Nat.le_refl _) _)
  have HR0 := Lib.hid (exRow_new w 0 ⟨#[]⟩ 0 (.slice none 0 0))
  have HTW := Lib.hid ht
  have HT := Lib.hid (ht.below HB0.out)
  have hz : Hid (w.heap.size < (w.alloc (.cells #[.int .i64 0, .string ⟨#[]⟩, .int .i64 0, .slice none 0 0] 32)).heap.size) := HR0.out.lt
  have HEN := Lib.hid hen
  have HRL : Hid (∀ e r, anyP f (L + 1) (left l at_) = some (e, r) → r.length < (left l at_).length) := fun e r h => (reads_len f).2.1 _ _ _ _ h
  have HIS : Hid (∀ W, Toks W a c l → L = 3 → Calls Tryz.prog 92 #[.slice a l.length c, .int .i64 (at_ : Int), .string ⟨#[110, 111, 116]⟩] W fun e w' => e = .returned (.bool false) ∧ W = w') := fun W hT h3 => specIsH hT hl at_ (by omega) ⟨#[110, 111, 116]⟩ false (by cases hh : hdW (left l at_) wNot with | false => exact hh | true => exact absurd ⟨h3, hh⟩ hn)
  have IA : Hid (∀ W, Toks W a c l → Calls Tryz.prog 62 #[.slice a l.length c, .int .i64 (at_ : Int), .int .i64 ((L : Int) + 1)] W (AnyR W l (anyP f (L + 1) (left l at_)))) := fun W hT => ia f (Nat.le_refl _) (L + 1) at_ W (by omega) (by omega) hT hat (by have := HEN.out; unfold enough at this ⊢; omega)
  clear ht hen hn
  cases b3 : ((L : Int) == 3)
  all_goals go_enter Tryz.func62, Tryz.ntmps62
  all_goals go_wp2_with fail
  all_goals generalize w.alloc (.cells #[.int .i64 0, .string ⟨#[]⟩, .int .i64 0, .slice none 0 0] 32) = W0 at HB0 HR0 HT hz ⊢
  all_goals try (refine (HIS.out W0 HT.out (by have := eq_of_beq b3; omega)).mono ?_; rintro e w' ⟨rfl, rfl⟩; go_wp2_with fail)
  all_goals
    refine (IA.out _ HT.out).mono ?_
    intro x w1 hx
    unfold AnyR at hx
    cases ho : anyP f (L + 1) (left l at_) with
    | none =>
      rw [ho] at hx
      obtain ⟨v0, v1, v2, va, vn, vc, rfl, b1⟩ := hx
      have hbb := (Below.refl w1.heap.size w1).alloc (Nat.le_refl _) (.cells #[.int .i64 v0, .string v1, .int .i64 v2, .slice va vn vc] 32)
      have HB1 := Lib.hid ((HB0.out.trans (b1.mono HB0.out.size)).trans (hbb.mono (HB0.out.trans (b1.mono HB0.out.size)).size))
      have HR1 := Lib.hid ((HR0.out.below b1).below hbb)
      have HPN : Hid (anyP (f + 1) L (left l at_) = none) := by unfold Hid; rw [HP.out, ho]
      clear b1 hbb
      go_wp2_with fail
      generalize w1.alloc (.cells #[.int .i64 v0, .string v1, .int .i64 v2, .slice va vn vc] 32) = W1 at HB1 HR1 ⊢
      obtain ⟨r0, r1, r2, r3, rf⟩ := HR1.out.cells
      go_loopw [11] (fun q wr => q = .int .i64 (-1) ∧ wr = W1) (fun _ _ => 0)
      case atStart => exact ⟨rfl, rfl⟩
      case round =>
        obtain ⟨rfl, rfl⟩ := hrel
        go_wp2_with fail
        refine bodyPost_ret (v := .tuple #[.agg #[.int .i64 0, .string ⟨#[]⟩, .int .i64 0, .slice none 0 0], .int .i64 (-1)]) (by simp [results, Tryz.results62, go_sem, *]) rfl ?_
        rw [HPN.out]
        exact AnyR.no HB1.out rfl
    | some z =>
      obtain ⟨e, r⟩ := z
      rw [ho] at hx
      obtain ⟨ea, ec, m, mi, rfl, rfl, rfl, hm, htr, b1⟩ := hx
      have hbb := (Below.refl w1.heap.size w1).alloc (Nat.le_refl _) (.cells #[.int .i64 e.kind, .string e.text, .int .i64 e.num, .slice ea e.kids.length ec] 32)
      have hw01 := b1.size
      have hrl := HRL.out _ _ ho
      obtain ⟨fin, hfin⟩ : ∃ fin, fin = loopP f L e (left l m) := ⟨_, rfl⟩
      have HS : Hid (AyS w a c l w1.heap.size L fin f m e ea ec (w1.alloc (.cells #[.int .i64 e.kind, .string e.text, .int .i64 e.num, .slice ea e.kids.length ec] 32))) := by
        refine ⟨(HR0.out.below b1).below hbb, exRow_new w1 _ _ _ _, (htr.imp (q' := fun b => w.heap.size < b ∧ b ≠ w1.heap.size) fun b hb hl => ⟨by have := hz.out; omega, by omega⟩).below hbb, (HT.out.below b1).below hbb, (HB0.out.trans (b1.mono HB0.out.size)).trans (hbb.mono (HB0.out.trans (b1.mono HB0.out.size)).size), by have := hz.out; omega, ?_, hfin.symm⟩
        have := HEN.out
        unfold enough at this
        unfold enoughL
        omega
      have HPN : Hid (anyP (f + 1) L (left l at_) = some fin) := by unfold Hid; rw [HP.out, ho, hfin]
      clear b1 hbb htr hfin hrl
      go_wp2_with fail
      generalize w1.alloc (.cells #[.int .i64 e.kind, .string e.text, .int .i64 e.num, .slice ea e.kids.length ec] 32) = W1 at HS ⊢
      generalize w1.heap.size = X at HS ⊢
      go_loopw [11] (fun q wr => ∃ (g m : Nat) (e : Ex) (ea : Option Addr) (ec : Nat), q = .int .i64 (m : Int) ∧ m ≤ l.length ∧ g ≤ f ∧ Hid (AyS w a c l X L fin g m e ea ec wr)) (fun q _ => l.length + 1 - (intOf q).toNat)
      case atStart => exact ⟨f, m, e, ea, ec, rfl, hm, Nat.le_refl _, HS.out⟩
      case round =>
        obtain ⟨g, m, e, ea, ec, rfl, hm, hg, HC⟩ := hrel
        have hw18 := HC.out.fuel
        have hll := left_len l m
        obtain ⟨g, rfl⟩ : ∃ q, g = q + 1 := ⟨g - 1, by unfold enoughL at hw18; omega⟩
        have HH := Lib.hid ((loop_head g L m e l).symm.trans HC.out.fin)
        obtain ⟨v, hv⟩ : ∃ v, (nxK l m L).getD (-1) = v := ⟨_, rfl⟩
        have HV := Lib.hid hv
        obtain ⟨u1, hu1⟩ : ∃ u, hdW (left l m) wIs = u := ⟨_, rfl⟩
        obtain ⟨u2, hu2⟩ : ∃ u, hdW (left l (m + 1)) wNull = u := ⟨_, rfl⟩
        have I1 : Hid (Calls Tryz.prog 92 #[.slice a l.length c, .int .i64 (m : Int), .string ⟨#[105, 115]⟩] wr fun e w' => e = .returned (.bool u1) ∧ wr = w') := specIsH HC.out.tok hl m (by omega) ⟨#[105, 115]⟩ u1 hu1
        have I2 : Hid (Calls Tryz.prog 92 #[.slice a l.length c, .int .i64 ((m : Int) + 1), .string ⟨#[110, 117, 108, 108]⟩] wr fun e w' => e = .returned (.bool u2) ∧ wr = w') := specIsH HC.out.tok hl (m + 1) (by omega) ⟨#[110, 117, 108, 108]⟩ u2 hu2
        have I3 : Hid (Calls Tryz.prog 93 #[.slice a l.length c, .int .i64 (m : Int), .int .i64 (L : Int)] wr fun e w' => e = .returned (.int .i64 v) ∧ wr = w') := specNextH HC.out.tok hl m L (by omega) v hv
        have HU := Lib.hid (And.intro hu1 hu2)
        have hm0 : (0 : Int) ≤ (m : Int) := by omega
        obtain ⟨r0, r1, r2, r3, rf⟩ := HC.out.r.cells
        obtain ⟨x0, x1, x2, x3, xf⟩ := HC.out.x.cells
        have hwX : w.heap.size ≠ X := by have := HC.out.hX; omega
        have hXl : X < wr.heap.size := HC.out.x.lt
        have hwl : w.heap.size < wr.heap.size := HC.out.r.lt
        clear hv hu1 hu2 hw18 hll
        have hisn : ((L : Int) == 4) = true ∧ u1 = true ∧ u2 = true ∨ ¬ (L = 4 ∧ u1 = true ∧ u2 = true) := by
          by_cases h4 : L = 4 ∧ u1 = true ∧ u2 = true
          · exact .inl ⟨by simp [h4.1], h4.2.1, h4.2.2⟩
          · exact .inr h4
        rcases hisn with ⟨b4, rfl, rfl⟩ | hno
        · have HL4 : Hid (L = 4) := by unfold Hid; have := eq_of_beq b4; omega
          have HFN : Hid (fin = (node 7 [e], left l (m + 2))) := by
            have h := HH.out
            rw [if_pos ⟨HL4.out, HU.out.1, HU.out.2⟩] at h
            exact h.symm
          have hm2 : m + 2 ≤ l.length := by
            rcases Nat.lt_or_ge (m + 1) l.length with h | h
            · exact h
            · have h2 := HU.out.2
              rw [left_end (by omega)] at h2
              cases h2
          go_wp2_with fail
          refine I1.out.mono ?_
          rintro e' w' ⟨rfl, rfl⟩
          go_wp2_with fail
          refine I2.out.mono ?_
          rintro e' w' ⟨rfl, rfl⟩
          go_wp2_with fail
          refine bodyPost_ret (v := .tuple #[.agg #[.int .i64 7, .string ⟨#[]⟩, .int .i64 0, .slice (some ⟨wr.heap.size, 0, none⟩) 1 1], .int .i64 ((m : Int) + 2)]) (by simp [results, Tryz.results62, go_sem, *]) rfl ?_
          rw [HPN.out, HFN.out]
          exact AnyR.one (HC.out.tr.imp fun b hb _ => hb.1) HC.out.bel hwl (by unfold i64E; omega) hm2 (by omega)
        · have IA2 : Hid (Calls Tryz.prog 62 #[.slice a l.length c, .int .i64 ((m : Int) + 1), .int .i64 ((L : Int) + 1)] wr (AnyR wr l (anyP g (L + 1) (left l (m + 1))))) := ia g (by omega) (L + 1) (m + 1) wr (by omega) (by omega) HC.out.tok (by omega) (by have h := HC.out.fuel; have h2 := left_len l m; have h3 := left_len l (m + 1); unfold enoughL at h; unfold enough; omega)
          have HH2 : Hid ((match nxK l m L with
      | none => (e, left l m)
      | some k => match anyP g (L + 1) (left l (m + 1)) with
        | none => (e, left l m)
        | some (s, r'') => if L = 4 then (node k [e, s], r'') else loopP g L (node k [e, s]) r'') = fin) := by
            have h := HH.out
            rw [if_neg (fun h' => hno ⟨h'.1, HU.out.1.symm.trans h'.2.1, HU.out.2.symm.trans h'.2.2⟩)] at h
            exact h
          have HNO := Lib.hid hno
          clear hno
          cases b4 : ((L : Int) == 4)
          case' true => cases u1
          case' true.true => cases u2
          case' true.true.true => exact absurd ⟨by have := eq_of_beq b4; omega, rfl, rfl⟩ HNO.out
          all_goals go_wp2_with fail
          all_goals try (refine I1.out.mono ?_; rintro e' w' ⟨rfl, rfl⟩; go_wp2_with fail)
          all_goals try (refine I2.out.mono ?_; rintro e' w' ⟨rfl, rfl⟩; go_wp2_with fail)
          all_goals (refine I3.out.mono ?_; rintro e' w' ⟨rfl, rfl⟩)
          all_goals
            cases hnx : nxK l m L with
            | none =>
              have HFN : Hid (fin = (e, left l m)) := by have h := HH2.out; rw [hnx] at h; exact h.symm
              have hv1 : v = -1 := by have h := HV.out; rw [hnx] at h; exact h.symm
              subst hv1
              go_wp2_with fail
              refine bodyPost_ret (v := .tuple #[.agg #[.int .i64 e.kind, .string e.text, .int .i64 e.num, .slice ea e.kids.length ec], .int .i64 (m : Int)]) (by simp [results, Tryz.results62, go_sem, *]) rfl ?_
              rw [HPN.out, HFN.out]
              exact AnyR.yes (HC.out.tr.imp fun b hb _ => hb.1) HC.out.bel hm rfl rfl rfl
            | some k =>
              have hv1 : v = k := by have h := HV.out; rw [hnx] at h; exact h.symm
              subst hv1
              have hkm : 8 ≤ v ∧ v ≤ 18 := by
                unfold nxK at hnx
                cases hlm : left l m with
                | nil => rw [hlm] at hnx; cases hnx
                | cons y q => rw [hlm] at hnx; have h := (next_some hnx).1; simp at h; omega
              obtain ⟨hk8, hk18⟩ := hkm
              have HNX := Lib.hid hnx
              clear hnx
              go_wp2_with fail
              refine IA2.out.mono ?_
              intro x w2 hx
              unfold AnyR at hx
              cases ho2 : anyP g (L + 1) (left l (m + 1)) with
              | none =>
                rw [ho2] at hx
                obtain ⟨v0, v1, v2, va, vn, vc, rfl, b2⟩ := hx
                have hbb := (Below.refl w2.heap.size w2).alloc (Nat.le_refl _) (.cells #[.int .i64 v0, .string v1, .int .i64 v2, .slice va vn vc] 32)
                have HC2 := Lib.hid ((HC.out.below b2).below hbb)
                have HFN : Hid (fin = (e, left l m)) := by have h := HH2.out; rw [HNX.out] at h; simp only at h; rw [ho2] at h; exact h.symm
                clear b2 hbb r0 r1 r2 r3 rf x0 x1 x2 x3 xf
                obtain ⟨r0, r1, r2, r3, rf⟩ := HC2.out.r.cells
                obtain ⟨x0, x1, x2, x3, xf⟩ := HC2.out.x.cells
                go_wp2_with fail
                refine bodyPost_ret (v := .tuple #[.agg #[.int .i64 e.kind, .string e.text, .int .i64 e.num, .slice ea e.kids.length ec], .int .i64 (m : Int)]) (by simp [results, Tryz.results62, go_sem, *]) rfl ?_
                rw [HPN.out, HFN.out]
                exact AnyR.yes (HC2.out.tr.imp fun b hb _ => hb.1) HC2.out.bel hm rfl rfl rfl
              | some z2 =>
                obtain ⟨s, r2'⟩ := z2
                rw [ho2] at hx
                obtain ⟨sa, sc, m2, mi2, rfl, rfl, rfl, hm2, htr2, b2⟩ := hx
                have HC2 := Lib.hid (HC.out.below b2)
                have HT2 := Lib.hid (htr2.imp (q' := fun b => X < b) fun b hb _ => by omega)
                have hX2 : X < w2.heap.size := HC2.out.x.lt
                have hw2 : w.heap.size < w2.heap.size := HC2.out.r.lt
                have hlen2 : Hid ((left l m2).length < (left l (m + 1)).length) := (reads_len g).2.1 _ _ _ _ ho2
                have HF2 : Hid ((if L = 4 then (node v [e, s], left l m2) else loopP g L (node v [e, s]) (left l m2)) = fin) := by have h := HH2.out; rw [HNX.out] at h; simp only at h; rw [ho2] at h; exact h
                clear b2 htr2 r0 r1 r2 r3 rf x0 x1 x2 x3 xf ho2
                obtain ⟨r0, r1, r2, r3, rf⟩ := HC2.out.r.cells
                obtain ⟨x0, x1, x2, x3, xf⟩ := HC2.out.x.cells
                have hm20 : (0 : Int) ≤ (m2 : Int) := by omega
                go_wp2_with fail
                first
                | (have HL4 : Hid (L = 4) := by unfold Hid; have := eq_of_beq b4; omega
                   have HFN : Hid (fin = (node v [e, s], left l m2)) := by have h := HF2.out; rw [if_pos HL4.out] at h; exact h.symm
                   refine bodyPost_ret (v := .tuple #[.agg #[.int .i64 v, .string ⟨#[]⟩, .int .i64 0, .slice (some ⟨w2.heap.size + 1, 0, none⟩) 2 2], .int .i64 (m2 : Int)]) (by simp [results, Tryz.results62, go_sem, *]) rfl ?_
                   rw [HPN.out, HFN.out]
                   exact HC2.out.last HT2.out (by unfold i64E; omega) hm2)
                | (have HN4 : Hid (¬ L = 4) := fun h => by rw [h] at b4; exact absurd b4 (by decide)
                   have HS2 := Lib.hid (HC2.out.step HTW.out HT2.out (k := v) (by unfold i64E; omega) (m2 := m2) (by have h := HC.out.fuel; have h2 := left_len l m; have h3 := left_len l (m + 1); have h4 := hlen2.out; unfold enoughL at h ⊢; omega) (by have h := HF2.out; rw [if_neg HN4.out] at h; exact h) rfl)
                   go_roundw
                   case rel => exact ⟨g, m2, node v [e, s], some ⟨w2.heap.size + 1, 0, none⟩, 2, rfl, hm2, by omega, HS2.out⟩
                   case measure => have h2 := left_len l m2; have h3 := left_len l (m + 1); have h4 := hlen2.out; simp [intOf]; omega)

/-- All of it, by the steps that it may take. -/
theorem spcAll {a : Option Addr} {c : Nat} {l : List Tk} (hl : l.length ≤ 1000000) (hts : ∀ x ∈ l, x.text.size ≤ 1048576) : ∀ f, AnyAt a c l f ∧ AtomAt a c l f := by
  intro f
  induction f using Nat.strongRecOn with
  | ind f ih =>
    cases f with
    | zero => exact ⟨fun L at_ w h1 h7 _ _ h => by unfold enough at h; omega, fun at_ w _ _ h => by omega⟩
    | succ f =>
      refine ⟨fun L at_ w h1 h7 ht hat hen => ?_, spcAtom hl hts (ih f (by omega)).1⟩
      by_cases h7' : L = 7
      · subst h7'
        exact spcAny7 (ih f (by omega)).2 at_ w ht hat hen
      · by_cases hn : L = 3 ∧ hdW (left l at_) wNot = true
        · obtain ⟨rfl, hn⟩ := hn
          exact spcAnyNot hl (ih f (by omega)).1 at_ w ht hat hen hn
        · exact spcAnyLoop hl (fun g hg => (ih g (by omega)).1) L at_ w h1 (by omega) ht hat hen hn

end Go.Proofs.YtgnillmhpockkaaGreatDoor

namespace Go.Proofs.YtgnillmhpockkaaGreatDoor

/-- Letters and words. -/
def tlW : List W → Nat
  | [] => 0
  | x :: r => x.2.length + 1 + tlW r

theorem tl_tail (ts : List W) : tlW ts.tail ≤ tlW ts := by
  cases ts with
  | nil => exact Nat.le_refl _
  | cons x r => show tlW r ≤ x.2.length + 1 + tlW r; omega

theorem tl_hd {ts : List W} {t : List UInt8} (h : hdW ts t = true) : tlW ts.tail + 1 ≤ tlW ts := by
  cases ts with
  | nil => cases h
  | cons x r => show tlW r + 1 ≤ x.2.length + 1 + tlW r; omega

theorem wt_leaf (k : Int) (t : List UInt8) (n : Int) : (leaf k t n).wt = t.length := by
  rw [Ex.wt_eq]
  show (txt t).size + (0 + wtL []) = _
  rw [wtL]
  have : (txt t).size = t.length := by simp [txt, ByteArray.size]
  omega

theorem wt_one (k : Int) (e : Ex) : (node k [e]).wt = 1 + e.wt := by
  rw [Ex.wt_eq]; show 0 + (1 + wtL [e]) = _; rw [wtL, wtL]; omega

theorem wt_two (k : Int) (e q : Ex) : (node k [e, q]).wt = 2 + e.wt + q.wt := by
  rw [Ex.wt_eq]; show 0 + (2 + wtL [e, q]) = _; rw [wtL, wtL, wtL]; omega

theorem wt_all : ∀ f : Nat, (∀ ts e r, atomP f ts = some (e, r) → e.wt + 1 + tlW r ≤ tlW ts) ∧ (∀ L ts e r, anyP f L ts = some (e, r) → e.wt + 1 + tlW r ≤ tlW ts) ∧
    (∀ L e r e' r', loopP f L e r = (e', r') → e'.wt + tlW r' ≤ e.wt + tlW r)
  | 0 => ⟨fun ts e r h => (by rw [atomP] at h; cases h), fun L ts e r h => (by rw [anyP] at h; cases h), fun L e r e' r' h => (by rw [loopP] at h; cases h; exact Nat.le_refl _)⟩
  | f + 1 => by
    obtain ⟨h1, h2, h3⟩ := wt_all f
    refine ⟨fun ts e r h => ?_, fun L ts e r h => ?_, fun L e r e' r' h => ?_⟩
    · cases ts with
      | nil => rw [atomP] at h; cases h
      | cons x q =>
        rw [atomP] at h
        show _ ≤ x.2.length + 1 + tlW q
        split at h
        · cases h; rw [wt_leaf]; simp only [List.length_nil]; omega
        · split at h
          · cases h; rw [wt_leaf]; omega
          · split at h
            · cases h; rw [wt_leaf]; omega
            · split at h
              · cases h; rw [wt_leaf]; simp only [List.length_nil]; omega
              · split at h
                · cases h; rw [wt_leaf]; simp only [List.length_nil]; omega
                · split at h
                  · cases h; rw [wt_leaf]; simp only [List.length_nil]; omega
                  · split at h
                    · split at h
                      · rename_i e1 y r1 hx
                        have a1 := h2 _ _ _ _ hx
                        have a2 : tlW (y :: r1) = y.2.length + 1 + tlW r1 := rfl
                        split at h
                        · cases h; omega
                        · cases h
                      · cases h
                    · cases h
    · rw [anyP] at h
      split at h
      · exact h1 _ _ _ h
      · split at h
        · rename_i hn
          have a0 := tl_hd hn.2
          split at h
          · rename_i k q hx
            have a1 := h2 _ _ _ _ hx
            cases h
            rw [wt_one]
            omega
          · cases h
        · split at h
          · rename_i k q hx
            have a1 := h2 _ _ _ _ hx
            have a2 := h3 L k q e r (Option.some.inj h)
            omega
          · cases h
    · cases r with
      | nil => rw [loopP] at h; cases h; exact Nat.le_refl _
      | cons x q =>
        rw [loopP] at h
        have a0 : tlW (x :: q) = x.2.length + 1 + tlW q := rfl
        split at h
        · rename_i hn
          have a1 := tl_hd hn.2.2
          cases h
          rw [wt_one]
          omega
        · split at h
          · cases h; exact Nat.le_refl _
          · split at h
            · cases h; exact Nat.le_refl _
            · rename_i s r2 hq
              have a1 := h2 _ _ _ _ hq
              split at h
              · cases h
                rw [wt_two]
                omega
              · have a2 := h3 _ _ _ _ _ h
                rw [wt_two] at a2
                omega

end Go.Proofs.YtgnillmhpockkaaGreatDoor

namespace Go.Proofs.YtgnillmhpockkaaGreatDoor
open Go.RowKit

def tlets (xs : List Tk) : Nat := (xs.map fun x => x.text.size).sum

theorem tlets_take (xs : List Tk) (k : Nat) (h : k < xs.length) : tlets (xs.take (k + 1)) = tlets (xs.take k) + xs[k].text.size := by
  unfold tlets
  rw [List.take_succ_eq_append_getElem h, List.map_append, List.sum_append]
  simp only [List.map_cons, List.map_nil, List.sum_cons, List.sum_nil, Nat.add_zero]

theorem tlets_le (xs : List Tk) (k : Nat) : tlets (xs.take k) ≤ tlets xs := by
  unfold tlets
  conv => rhs; rw [← List.take_append_drop k xs, List.map_append, List.sum_append]
  omega

theorem tlets_mem {xs : List Tk} {x : Tk} (h : x ∈ xs) : x.text.size ≤ tlets xs := by
  unfold tlets
  induction xs with
  | nil => simp at h
  | cons y r ih =>
    simp only [List.map_cons, List.sum_cons]
    rcases List.mem_cons.1 h with rfl | h
    · omega
    · have := ih h; omega

def leftT (xs : List Tk) (left : Int) : Int := if left < xs.length + tlets xs then -1 else left - xs.length - tlets xs

theorem leftT_le {xs : List Tk} (h : ¬ leftT xs 1048576 < 0) : xs.length + tlets xs ≤ 1048576 := by
  unfold leftT at h
  split at h
  · omega
  · omega

end Go.Proofs.YtgnillmhpockkaaGreatDoor

namespace Go.Proofs.YtgnillmhpockkaaGreatDoor
open Go.RowKit

theorem tlets_cons (x : Tk) (r : List Tk) : tlets (x :: r) = x.text.size + tlets r := by unfold tlets; rw [List.map_cons, List.sum_cons]

theorem left_tl (l : List Tk) (i : Nat) : tlW (left l i) ≤ l.length + tlets l := by
  have h0 : ∀ q : List Tk, tlW (q.map wOf) = q.length + tlets q := by
    intro q
    induction q with
    | nil => rfl
    | cons x r ih =>
      show (wOf x).2.length + 1 + tlW (r.map wOf) = _
      rw [ih]
      have : (wOf x).2.length = x.text.size := by simp [wOf]
      rw [this, tlets_cons, List.length_cons]
      omega
  unfold left
  induction i generalizing l with
  | zero => rw [List.drop_zero, h0]; exact Nat.le_refl _
  | succ i ih =>
    cases l with
    | nil => exact Nat.zero_le _
    | cons x r =>
      rw [List.drop_succ_cons]
      have := ih r
      rw [tlets_cons, List.length_cons]
      omega

theorem fine_drop {l : List Tk} (h : Fine (left l 0)) (i : Nat) : Fine (left l i) := by
  intro x hx
  refine h x ?_
  unfold left at hx ⊢
  obtain ⟨y, hy, rfl⟩ := List.mem_map.1 hx
  rw [List.drop_zero]
  exact List.mem_map.2 ⟨y, List.mem_of_mem_drop hy, rfl⟩

/-- What the program finds, by the model's reader. -/
theorem parse_model {l : List Tk} (hl : l.length ≤ 20000) (hf : Fine (left l 0)) (i : Nat) : parseI l (i : Int) = match anyP (10 * l.length + 30) 1 (left l i) with
    | some (e, r) => if (decide (e.nodes ≤ 40) && shapeE e) = true then some (e, l.length - r.length) else none
    | none => none := by
  have hll := left_len l i
  by_cases hi : i < l.length
  · have h1 := (same_all (3 * l.length + 3)).1 1 (left l i) (10 * l.length + 30) (Nat.le_refl _) (by omega) (fine_drop hf i) (by unfold roomI; omega) (by omega)
    unfold parseI
    rw [if_neg (by omega), show (i : Int).toNat = i by omega, ← h1]
    cases exprI (3 * l.length + 3) 1 (left l i) with
    | none => rfl
    | some q => rfl
  · have hn : anyP (10 * l.length + 30) 1 (left l i) = none := by
      cases hx : anyP (10 * l.length + 30) 1 (left l i) with
      | none => rfl
      | some q =>
        obtain ⟨e, r⟩ := q
        have := (reads_len (10 * l.length + 30)).2.1 _ _ _ _ hx
        omega
    rw [hn]
    unfold parseI
    rw [if_pos (.inr (.inr (by omega)))]

set_option maxRecDepth 100000 in
set_option maxHeartbeats 4000000 in
theorem specParse {a : Option Addr} {c : Nat} {l : List Tk} (at_ : Int) (w : World) (ht : Toks w a c l) (hl : l.length ≤ 1000000) (hwt : l.length + tlets l ≤ 1048576) (hf : Fine (left l 0)) (hat : at_ ≤ l.length + 1) :
    Calls Tryz.prog 23 #[.slice a l.length c, .int .i64 at_] w (ParseR w (parseI l at_)) := by
  have HB0 := Lib.hid (show Below w.heap.size w (w.alloc (.cells #[.int .i64 0, .string ⟨#[]⟩, .int .i64 0, .slice none 0 0] 32)) from (Below.refl _ _).alloc (Nat.le_refl _) _)
  by_cases h0 : at_ < 0 ∨ 20000 < l.length
  · have HP : Hid (parseI l at_ = none) := by unfold Hid parseI; rw [if_pos (by rcases h0 with h | h; exact .inr (.inl h); exact .inl h)]
    rw [HP.out]
    by_cases h1 : at_ < 0
    · clear h0 ht
      go_enter Tryz.func23, Tryz.ntmps23
      go_wp2_with fail
      refine bodyPost_ret (v := .tuple #[.agg #[.int .i64 0, .string ⟨#[]⟩, .int .i64 0, .slice none 0 0], .int .i64 (-1)]) (by simp [results, Tryz.results23, go_sem]) rfl ?_
      exact ⟨rfl, HB0.out⟩
    · have h2 : (20000 : Int) < (l.length : Int) := by rcases h0 with h | h; exact absurd h h1; omega
      clear h0 ht
      go_enter Tryz.func23, Tryz.ntmps23
      go_wp2_with fail
      refine bodyPost_ret (v := .tuple #[.agg #[.int .i64 0, .string ⟨#[]⟩, .int .i64 0, .slice none 0 0], .int .i64 (-1)]) (by simp [results, Tryz.results23, go_sem]) rfl ?_
      exact ⟨rfl, HB0.out⟩
  · obtain ⟨i, rfl⟩ : ∃ i : Nat, at_ = (i : Int) := ⟨at_.toNat, by omega⟩
    have hl2 : l.length ≤ 20000 := by omega
    have HP := Lib.hid (parse_model hl2 hf i)
    have h1 : ¬ (i : Int) < 0 := by omega
    have h2 : ¬ (20000 : Int) < (l.length : Int) := by omega
    have HR0 := Lib.hid (exRow_new w 0 ⟨#[]⟩ 0 (.slice none 0 0))
    have HT0 := Lib.hid (ht.below HB0.out)
    have hz : Hid (w.heap.size < (w.alloc (.cells #[.int .i64 0, .string ⟨#[]⟩, .int .i64 0, .slice none 0 0] 32)).heap.size) := HR0.out.lt
    have hll := left_len l i
    have IA : Hid (∀ W, Toks W a c l → Calls Tryz.prog 62 #[.slice a l.length c, .int .i64 (i : Int), .int .i64 1] W (AnyR W l (anyP (10 * l.length + 30) 1 (left l i)))) := fun W hT => (spcAll hl (fun x hx => by have := tlets_mem hx; omega) (10 * l.length + 30)).1 1 i W (Nat.le_refl _) (by omega) hT (by omega) (by unfold enough; omega)
    have HWA : Hid (∀ e r, anyP (10 * l.length + 30) 1 (left l i) = some (e, r) → e.wt ≤ 1048576) := fun e r h => by have h3 := (wt_all (10 * l.length + 30)).2.1 _ _ _ _ h; have h4 := left_tl l i; omega
    clear h0 ht hf hll
    go_enter Tryz.func23, Tryz.ntmps23
    go_wp2_with fail
    generalize w.alloc (.cells #[.int .i64 0, .string ⟨#[]⟩, .int .i64 0, .slice none 0 0] 32) = W0 at HB0 HR0 HT0 hz ⊢
    refine (IA.out W0 HT0.out).mono ?_
    intro x w1 hx
    unfold AnyR at hx
    cases ho : anyP (10 * l.length + 30) 1 (left l i) with
    | none =>
      rw [ho] at hx
      obtain ⟨v0, v1, v2, va, vn, vc, rfl, b1⟩ := hx
      have hbb := (Below.refl w1.heap.size w1).alloc (Nat.le_refl _) (.cells #[.int .i64 v0, .string v1, .int .i64 v2, .slice va vn vc] 32)
      have HB1 := Lib.hid ((HB0.out.trans (b1.mono HB0.out.size)).trans (hbb.mono (HB0.out.trans (b1.mono HB0.out.size)).size))
      have HR1 := Lib.hid ((HR0.out.below b1).below hbb)
      have HPN : Hid (parseI l (i : Int) = none) := by unfold Hid; rw [HP.out, ho]
      clear b1 hbb ho
      obtain ⟨r0, r1, r2, r3, rf⟩ := HR1.out.cells
      go_wp2_with fail
      refine bodyPost_ret (v := .tuple #[.agg #[.int .i64 0, .string ⟨#[]⟩, .int .i64 0, .slice none 0 0], .int .i64 (-1)]) (by simp [results, Tryz.results23, go_sem, *]) rfl ?_
      rw [HPN.out]
      exact ParseR.no HB1.out rfl
    | some z =>
      obtain ⟨e, r⟩ := z
      rw [ho] at hx
      obtain ⟨ea, ec, m, mi, rfl, rfl, rfl, hm, htr, b1⟩ := hx
      have HWT := Lib.hid (HWA.out _ _ ho)
      have HPS : Hid (parseI l (i : Int) = if (decide (e.nodes ≤ 40) && shapeE e) = true then some (e, m) else none) := by
        unfold Hid
        rw [HP.out, ho]
        have h3 := left_len l m
        have h4 : l.length - (left l m).length = m := by omega
        simp only
        rw [h4]
      have hbb := (Below.refl w1.heap.size w1).alloc (Nat.le_refl _) (.cells #[.int .i64 e.kind, .string e.text, .int .i64 e.num, .slice ea e.kids.length ec] 32)
      have HB1 := Lib.hid ((HB0.out.trans (b1.mono HB0.out.size)).trans (hbb.mono (HB0.out.trans (b1.mono HB0.out.size)).size))
      have HR1 := Lib.hid ((HR0.out.below b1).below hbb)
      have HN1 := Lib.hid (exRow_new w1 e.kind e.text e.num (.slice ea e.kids.length ec))
      have HTR := Lib.hid ((htr.imp (q' := fun b => W0.heap.size ≤ b) fun b hb _ => hb).below hbb)
      obtain ⟨d, hk⟩ := HTR.out.kids
      have HK := Lib.hid hk.at
      obtain ⟨v, hv⟩ : ∃ v, (decide (e.nodes ≤ 40) && shapeE e) = v := ⟨_, rfl⟩
      have HV := Lib.hid hv
      have hm0 : ¬ (m : Int) < 0 := by omega
      clear b1 hbb ho htr hk hv
      obtain ⟨r0, r1, r2, r3, rf⟩ := HR1.out.cells
      obtain ⟨n0, n1, n2, n3, nf⟩ := HN1.out.cells
      go_wp2_with fail
      generalize w1.alloc (.cells #[.int .i64 e.kind, .string e.text, .int .i64 e.num, .slice ea e.kids.length ec] 32) = W1 at *
      refine (specExprOk e ea ec d W1 HK.out HWT.out v HV.out).mono ?_
      rintro y w2 ⟨rfl, b2⟩
      have HB2 := Lib.hid (HB1.out.trans (b2.mono HB1.out.size))
      have HR2 := Lib.hid (HR1.out.below b2)
      have HN2 := Lib.hid (HN1.out.below b2)
      have HTR2 := Lib.hid (HTR.out.below b2)
      clear b2 r0 r1 r2 r3 rf n0 n1 n2 n3 nf
      obtain ⟨r0, r1, r2, r3, rf⟩ := HR2.out.cells
      obtain ⟨n0, n1, n2, n3, nf⟩ := HN2.out.cells
      cases v with
      | false =>
        go_wp2_with fail
        refine bodyPost_ret (v := .tuple #[.agg #[.int .i64 0, .string ⟨#[]⟩, .int .i64 0, .slice none 0 0], .int .i64 (-1)]) (by simp [results, Tryz.results23, go_sem, *]) rfl ?_
        rw [HPS.out, if_neg (by rw [HV.out]; decide)]
        exact ParseR.no HB2.out rfl
      | true =>
        go_wp2_with fail
        refine bodyPost_ret (v := .tuple #[.agg #[.int .i64 e.kind, .string e.text, .int .i64 e.num, .slice ea e.kids.length ec], .int .i64 (m : Int)]) (by simp [results, Tryz.results23, go_sem, *]) rfl ?_
        rw [HPS.out, if_pos HV.out]
        exact ParseR.yes HTR2.out hz.out HB2.out rfl

end Go.Proofs.YtgnillmhpockkaaGreatDoor

namespace Go.Proofs.YtgnillmhpockkaaGreatDoor
open Go.RowKit

theorem Toks.take {w : World} {a : Option Addr} {c : Nat} {l : List Tk} (h : Toks w a c l) (m : Nat) : Toks w a c (l.take m) := by
  obtain ⟨h1, h2, h3, h4, h5⟩ := h
  refine ⟨by rw [List.length_take]; omega, h2, fun x hx => h3 x (List.mem_of_mem_take hx), h4, fun hp => ?_⟩
  rw [List.length_take] at hp
  obtain ⟨b, off, ha, hlt, hc⟩ := h5 (by omega)
  refine ⟨b, off, ha, hlt, fun i hi => ?_⟩
  rw [List.length_take] at hi
  rw [List.getElem_take]
  exact hc i (by omega)

theorem parse_facts {l : List Tk} {pl : Int} {e : Ex} {m : Nat} (hf : Fine (left l 0)) (h : parseI l pl = some (e, m)) :
    l.length ≤ 20000 ∧ shapeE e = true ∧ e.nodes ≤ 40 ∧ 0 ≤ pl ∧ pl < (m : Int) ∧ m ≤ l.length ∧ parseI (l.take m) pl = some (e, m) := by
  have hg : ¬ (20000 < l.length ∨ pl < 0 ∨ (l.length : Int) ≤ pl) := by
    intro hg
    unfold parseI at h
    rw [if_pos hg] at h
    cases h
  obtain ⟨i, rfl⟩ : ∃ i : Nat, pl = (i : Int) := ⟨pl.toNat, by omega⟩
  have hl : l.length ≤ 20000 := by omega
  have hi : i < l.length := by omega
  rw [parse_model hl hf] at h
  cases hx : anyP (10 * l.length + 30) 1 (left l i) with
  | none => rw [hx] at h; cases h
  | some q =>
    obtain ⟨e', r⟩ := q
    rw [hx] at h
    simp only at h
    split at h
    · rename_i hok
      cases h
      rw [Bool.and_eq_true, decide_eq_true_eq] at hok
      have hrl := (reads_len _).2.1 _ _ _ _ hx
      have hll := left_len l i
      obtain ⟨u, hu, hu2⟩ := cut_back (Nat.le_refl _) (by omega) hx
      have hul : (left l i).length = u.length + r.length := by rw [hu, List.length_append]
      have hm : l.length - r.length = i + u.length := by omega
      have hlt : left (l.take (l.length - r.length)) i = u := by
        unfold left at hu ⊢
        rw [hm, List.drop_take, List.map_take, hu, show i + u.length - i = u.length by omega, List.take_left']
        rfl
      have htl : (l.take (l.length - r.length)).length = l.length - r.length := by rw [List.length_take]; omega
      have hf' : Fine (left (l.take (l.length - r.length)) 0) := by
        intro x hx'
        refine hf x ?_
        unfold left at hx' ⊢
        rw [List.drop_zero] at hx' ⊢
        obtain ⟨y, hy, rfl⟩ := List.mem_map.1 hx'
        exact List.mem_map.2 ⟨y, List.mem_of_mem_take hy, rfl⟩
      refine ⟨hl, hok.2, hok.1, by omega, by omega, by omega, ?_⟩
      rw [parse_model (by omega) hf', hlt, any_fuel (f' := 10 * l.length + 30) (Nat.le_refl _) (by omega) (by unfold enough; omega) (by unfold enough; omega), hu2]
      simp only
      rw [if_pos (by rw [hok.2]; simpa using hok.1), List.length_nil, htl, Nat.sub_zero]
    · cases h

end Go.Proofs.YtgnillmhpockkaaGreatDoor

namespace Go.Proofs.YtgnillmhpockkaaGreatDoor
open Go.RowKit

theorem strsOne (w : World) (s : ByteArray) (hs : s.size ≤ maxLen) : Strs (w.alloc (.cells #[.string s] 9)) (some ⟨w.heap.size, 0, none⟩) 1 [s] := by
  refine ⟨by simp, by unfold maxLen; omega, by simpa using hs, (fun h => by cases h), fun _ => ⟨w.heap.size, 0, rfl, by simp, fun i hi => ?_⟩⟩
  have : i = 0 := by simpa using hi
  subst this
  simp [go_sem]

theorem Own.alloc {w : World} {B : Nat} {a : Option Addr} {c : Nat} {xs : List ByteArray} (h : Own w B a c xs) (o : Obj) : Own (w.alloc o) B a c xs :=
  h.below ((Below.refl _ _).alloc (Nat.le_refl _) _)

theorem Own.drewN {w : World} {B : Nat} {a : Option Addr} {c : Nat} {xs : List ByteArray} (h : Own w B a c xs) (n : Nat) : Own (w.drewN n) B a c xs :=
  h.below (below_drewN (Below.refl _ _) n)

theorem ownEmpty (w : World) : Own (w.alloc (.cells #[] 9)) w.heap.size (some ⟨w.heap.size, 0, none⟩) 0 [] := by
  have := World.ownsRow_lit (base := w.heap.size) (e := 9) (size := 1) w #[] 0 (Nat.le_refl _) (by unfold maxLen; omega) rfl
  exact this

/-- A row of the call's own, one text appended behind a new block: what is below stays. -/
theorem appended {w wr w2 : World} {B : Nat} {a : Option Addr} {c : Nat} {ys : List ByteArray} (hb : Below B w wr) (hBw : B ≤ w.heap.size) (hown : Own wr B a c ys) {o : Obj} (hg : (wr.alloc o).grownBy w2 (Value.slice a ys.length c).ownBlock) : Below B w w2 := by
  have h1 : Below B w (wr.alloc o) := hb.alloc (Nat.le_trans hBw hb.size) o
  exact h1.grown hg (by have := hb.size; simp; omega) (fun k hk => (hown.lt hk).1)

end Go.Proofs.YtgnillmhpockkaaGreatDoor

namespace Go.Proofs.YtgnillmhpockkaaGreatDoor
open Go.RowKit

def joinL (xs : List ByteArray) (by_ : ByteArray) : List UInt8 := Lib.join (xs.map (·.data.toList)) by_.data.toList
def joinT (xs : List ByteArray) (by_ : ByteArray) : ByteArray := ⟨(joinL xs by_).toArray⟩

theorem join_snoc (l : List (List UInt8)) (x sep : List UInt8) (h : l ≠ []) : Lib.join (l ++ [x]) sep = Lib.join l sep ++ sep ++ x := by
  cases l with
  | nil => exact absurd rfl h
  | cons y r =>
    rw [List.cons_append, Lib.join_cons, Lib.join_cons]
    simp [Lib.joinTail]

theorem joinL_first (xs : List ByteArray) (b : ByteArray) (k : Nat) (h0 : k = 0) (h : k < xs.length) : joinL (xs.take (k + 1)) b = joinL (xs.take k) b ++ xs[k].data.toList := by
  subst h0
  unfold joinL
  rw [List.take_succ_eq_append_getElem h]
  simp [Lib.join_one, Lib.join_nil]

theorem joinL_next (xs : List ByteArray) (b : ByteArray) (k : Nat) (h0 : 0 < k) (h : k < xs.length) : joinL (xs.take (k + 1)) b = joinL (xs.take k) b ++ b.data.toList ++ xs[k].data.toList := by
  unfold joinL
  rw [List.take_succ_eq_append_getElem h, List.map_append]
  refine join_snoc _ _ _ ?_
  intro he
  have hlen : ((xs.take k).map (·.data.toList)).length = k := by rw [List.length_map, List.length_take_of_le (by omega)]
  rw [he] at hlen
  simp at hlen
  omega

theorem joinL_len (xs : List ByteArray) (b : ByteArray) : ∀ k, k ≤ xs.length → (joinL (xs.take k) b).length ≤ lets (xs.take k) + k * b.size
  | 0, _ => by simp [joinL, Lib.join_nil]
  | k + 1, h => by
    have ih := joinL_len xs b k (by omega)
    rw [lets_take xs k (by omega)]
    have hb : b.data.toList.length = b.size := by simp
    have hx : xs[k].data.toList.length = xs[k].size := by simp
    rcases Nat.eq_zero_or_pos k with hp | hp
    · rw [joinL_first xs b k hp (by omega), List.length_append, hx, Nat.succ_mul]
      omega
    · rw [joinL_next xs b k hp (by omega), List.length_append, List.length_append, hb, hx, Nat.succ_mul]
      omega

end Go.Proofs.YtgnillmhpockkaaGreatDoor
