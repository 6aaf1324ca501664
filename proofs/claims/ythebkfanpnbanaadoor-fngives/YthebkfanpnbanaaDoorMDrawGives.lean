/- spec.l05Enums, spec.DrawGives. -/
import Derived.Test.YthebkfanpnbanaaDoorMDrawOdd
import Derived.Test.YthebkfanpnbanaaDoorMDrawType
namespace Go.Proofs.YthebkfanpnbanaaDoor
open Go.RowKit

theorem rowStrs {w : World} {b : Nat} {xs : List ByteArray} {cs : Array Value} (h : w.heap[b]? = some (.cells cs 9 (0, 0))) (hc : cs = (xs.map Value.string).toArray) (hs : ∀ s ∈ xs, s.size ≤ maxLen) (hl : xs.length ≤ 1000) : Strs w (some ⟨b, 0, none⟩) xs.length xs := by
  have hb : b < w.heap.size := by
    rcases Nat.lt_or_ge b w.heap.size with h' | h'
    · exact h'
    · rw [Array.getElem?_eq_none h'] at h; cases h
  refine ⟨Nat.le_refl _, by unfold maxLen; omega, hs, (fun h => by cases h), fun _ => ⟨b, 0, rfl, hb, fun i hi => ?_⟩⟩
  rw [cell_of_row _ _ _ _ _ _ h, hc]
  simp [hi]

set_option maxRecDepth 100000 in
set_option maxHeartbeats 2000000 in
theorem specEnums (w : World) : Calls Tryd.prog 15 #[] w fun x w' => ∃ (la : Option Addr) (ls : List Lb), x = .returned (.slice la 2 2) ∧ ls.length = 2 ∧ (∀ W : World, w'.heap.size ≤ W.heap.size → (∀ b, w.heap.size ≤ b → b < w'.heap.size → W.heap[b]? = w'.heap[b]?) → Lbs W la 2 ls) ∧ Below w.heap.size w w' := by
  have H : Hid (∀ W w', w' = ((w.alloc (.cells #[.string ⟨#[104, 97, 112, 112, 121]⟩, .string ⟨#[115, 97, 100]⟩] 9)).alloc (.cells #[.string ⟨#[97]⟩, .string ⟨#[105, 116, 39, 115]⟩] 9)).alloc (.cells #[.string ⟨#[109, 111, 111, 100]⟩, .slice (some ⟨w.heap.size, 0, none⟩) 2 2, .string ⟨#[115, 105, 122, 101]⟩, .slice (some ⟨w.heap.size + 1, 0, none⟩) 2 2] 69) → w'.heap.size ≤ W.heap.size → (∀ b, w.heap.size ≤ b → b < w'.heap.size → W.heap[b]? = w'.heap[b]?) →
      Lbs W (some ⟨w.heap.size + 1 + 1, 0, none⟩) 2 [⟨⟨#[109, 111, 111, 100]⟩, [⟨#[104, 97, 112, 112, 121]⟩, ⟨#[115, 97, 100]⟩], some ⟨w.heap.size, 0, none⟩, 2⟩, ⟨⟨#[115, 105, 122, 101]⟩, [⟨#[97]⟩, ⟨#[105, 116, 39, 115]⟩], some ⟨w.heap.size + 1, 0, none⟩, 2⟩]) := by
    intro W w' hw hsz hag
    have s1 := size_allocE w (.cells #[.string ⟨#[104, 97, 112, 112, 121]⟩, .string ⟨#[115, 97, 100]⟩] 9)
    have g1 := heap_alloc_new w (.cells #[.string ⟨#[104, 97, 112, 112, 121]⟩, .string ⟨#[115, 97, 100]⟩] 9)
    generalize w.alloc (.cells #[.string ⟨#[104, 97, 112, 112, 121]⟩, .string ⟨#[115, 97, 100]⟩] 9) = w1 at *
    have s2 := size_allocE w1 (.cells #[.string ⟨#[97]⟩, .string ⟨#[105, 116, 39, 115]⟩] 9)
    have g2 := heap_alloc_new w1 (.cells #[.string ⟨#[97]⟩, .string ⟨#[105, 116, 39, 115]⟩] 9)
    have b2 := (Below.refl w1.heap.size w1).alloc (Nat.le_refl _) (.cells #[.string ⟨#[97]⟩, .string ⟨#[105, 116, 39, 115]⟩] 9)
    generalize w1.alloc (.cells #[.string ⟨#[97]⟩, .string ⟨#[105, 116, 39, 115]⟩] 9) = w2 at *
    have s3 := size_allocE w2 (.cells #[.string ⟨#[109, 111, 111, 100]⟩, .slice (some ⟨w.heap.size, 0, none⟩) 2 2, .string ⟨#[115, 105, 122, 101]⟩, .slice (some ⟨w.heap.size + 1, 0, none⟩) 2 2] 69)
    have g3 := heap_alloc_new w2 (.cells #[.string ⟨#[109, 111, 111, 100]⟩, .slice (some ⟨w.heap.size, 0, none⟩) 2 2, .string ⟨#[115, 105, 122, 101]⟩, .slice (some ⟨w.heap.size + 1, 0, none⟩) 2 2] 69)
    have b3 := (Below.refl w2.heap.size w2).alloc (Nat.le_refl _) (.cells #[.string ⟨#[109, 111, 111, 100]⟩, .slice (some ⟨w.heap.size, 0, none⟩) 2 2, .string ⟨#[115, 105, 122, 101]⟩, .slice (some ⟨w.heap.size + 1, 0, none⟩) 2 2] 69)
    rw [← hw] at s3 g3 b3
    have e1 : W.heap[w.heap.size]? = _ := (hag w.heap.size (Nat.le_refl _) (by omega)).trans ((b3.block _ (by omega)).trans ((b2.block _ (by omega)).trans g1))
    rw [s1] at g2
    have e2 : W.heap[w.heap.size + 1]? = _ := (hag (w.heap.size + 1) (by omega) (by omega)).trans ((b3.block _ (by omega)).trans g2)
    rw [s2, s1] at g3
    have e3 : W.heap[w.heap.size + 1 + 1]? = _ := (hag (w.heap.size + 1 + 1) (by omega) (by omega)).trans g3
    have t1 := rowStrs e1 (xs := [⟨#[104, 97, 112, 112, 121]⟩, ⟨#[115, 97, 100]⟩]) rfl (by intro s hs; simp only [List.mem_cons, List.not_mem_nil, or_false] at hs; unfold maxLen; rcases hs with rfl | rfl <;> decide) (by decide)
    have t2 := rowStrs e2 (xs := [⟨#[97]⟩, ⟨#[105, 116, 39, 115]⟩]) rfl (by intro s hs; simp only [List.mem_cons, List.not_mem_nil, or_false] at hs; unfold maxLen; rcases hs with rfl | rfl <;> decide) (by decide)
    refine ⟨Nat.le_refl _, by unfold maxLen; omega, (fun h => by cases h), fun _ => ⟨w.heap.size + 1 + 1, 0, rfl, by omega, fun i hi => ?_⟩⟩
    have hi2 : i = 0 ∨ i = 1 := by have : i < 2 := hi; omega
    rcases hi2 with rfl | rfl
    · exact ⟨by rw [cell_of_row _ _ _ _ _ _ e3]; rfl, by rw [cell_of_row _ _ _ _ _ _ e3]; rfl, by show (4 : Nat) ≤ maxLen; unfold maxLen; omega, t1⟩
    · exact ⟨by rw [cell_of_row _ _ _ _ _ _ e3]; rfl, by rw [cell_of_row _ _ _ _ _ _ e3]; rfl, by show (4 : Nat) ≤ maxLen; unfold maxLen; omega, t2⟩
  go_enter Tryd.func15, Tryd.ntmps15
  go_wp2_with fail
  go_ret
  exact ⟨_, _, rfl, rfl, fun W hsz hag => H.out W _ rfl hsz hag, ((((Below.refl _ _).alloc (Nat.le_refl _) _).alloc (by simp) _).alloc (by simp; omega) _)⟩

/-- What is drawn for FnGives. -/
def DrewG (w : World) (x : Ending) (w' : World) : Prop :=
  ∃ (e : Ex) (ea : Option Addr) (ec d : Nat) (tk tl : Int) (tn : ByteArray) (la : Option Addr) (ls : List Lb), x = .returned (.tuple #[.agg #[.int .i64 e.kind, .string e.text, .int .i64 e.num, .slice ea e.kids.length ec], .agg #[.int .i64 tk, .int .i64 tl, .string tn], .slice la 2 2]) ∧ Sm e 64 ∧ KidsAt w' d ea ec e.kids ∧ ls.length = 2 ∧ Lbs w' la 2 ls ∧ Below w.heap.size w w'

/-- The boxes of DrawGives. -/
structure GV (w : World) (T E : Nat) (tk tl : Int) (tn : ByteArray) (e : Ex) (ea : Option Addr) (ec : Nat) (V : World) : Prop where
  r1 : ExRow V w.heap.size 0 ⟨#[]⟩ 0 (.slice none 0 0)
  r2 : TyRow V (w.heap.size + 1) 0 0 ⟨#[]⟩
  t : TyRow V T tk tl tn
  x : ExRow V E e.kind e.text e.num (.slice ea e.kids.length ec)
  tr : ∃ d, KidsQ (fun b => w.heap.size + 1 < b) V d ea ec e.kids
  sm : Sm e 64
  bel : Below w.heap.size w V

theorem TyRow.below {W W' : World} {R : Nat} {k l : Int} {s : ByteArray} (h : TyRow W R k l s) (hb : Below W.heap.size W W') : TyRow W' R k l s := (hb.block R h.lt).trans h

theorem GV.below {w : World} {T E : Nat} {tk tl : Int} {tn : ByteArray} {e : Ex} {ea : Option Addr} {ec : Nat} {V V' : World} (h : GV w T E tk tl tn e ea ec V) (hb : Below V.heap.size V V') : GV w T E tk tl tn e ea ec V' := by
  obtain ⟨d, hk⟩ := h.tr
  exact ⟨h.r1.below hb, h.r2.below hb, h.t.below hb, h.x.below hb, ⟨d, hk.agree hb.size fun b _ hl o => hb.cell (p := ⟨b, o, none⟩) hl⟩, h.sm, h.bel.trans (hb.mono h.bel.size)⟩

/-- The boxes before the expression is drawn. -/
structure GU (w : World) (a : Option Addr) (c : Nat) (l : List UInt8) (w0 : World) (g T E : Nat) (tk tl : Int) (tn : ByteArray) (V : World) : Prop where
  r1 : ExRow V w.heap.size 0 ⟨#[]⟩ 0 (.slice none 0 0)
  r2 : TyRow V (w.heap.size + 1) 0 0 ⟨#[]⟩
  t : TyRow V T tk tl tn
  x : ExRow V E 0 ⟨#[]⟩ 0 (.slice none 0 0)
  deck : Deck w0 a c l g V
  bel : Below w.heap.size w V
  hg : w.heap.size + 1 < g
  hT : g < T
  hE : T < E

theorem GU.kept {w : World} {a : Option Addr} {c : Nat} {l : List UInt8} {w0 : World} {g T E : Nat} {tk tl : Int} {tn : ByteArray} {V V' : World} (h : GU w a c l w0 g T E tk tl tn V) (hd : Deck w0 a c l g V') (hg : V.grownBy V' (some g)) : GU w a c l w0 g T E tk tl tn V' := by
  have h1 := h.hg
  have h2 := h.hT
  have h3 := h.hE
  exact ⟨h.r1.kept hg (fun e => by have := Option.some.inj e; omega), h.r2.kept hg (by omega), h.t.kept hg (by omega), h.x.kept hg (fun e => by have := Option.some.inj e; omega), hd, h.bel.grown hg h.bel.size (fun q hq => by cases hq; omega), h1, h2, h3⟩

theorem GU.alloc {w : World} {a : Option Addr} {c : Nat} {l : List UInt8} {w0 : World} {g T E : Nat} {tk tl : Int} {tn : ByteArray} {V : World} (h : GU w a c l w0 g T E tk tl tn V) (o : Obj) : GU w a c l w0 g T E tk tl tn (V.alloc o) :=
  ⟨h.r1.alloc o, h.r2.alloc o, h.t.alloc o, h.x.alloc o, h.deck.alloc o, h.bel.alloc h.bel.size o, h.hg, h.hT, h.hE⟩

/-- The expression is stored into its box. -/
theorem GU.put {w : World} {a : Option Addr} {c : Nat} {l : List UInt8} {w0 : World} {g T E : Nat} {tk tl : Int} {tn : ByteArray} {V : World} (h : GU w a c l w0 g T E tk tl tn V) {e : Ex} {ea : Option Addr} {ec : Nat} (ht : ∃ d, KidsQ (fun b => E < b) V d ea ec e.kids) (hs : Sm e 64) {V' : World}
    (hV : V' = (((V.setCell ⟨E, 0, none⟩ (.int .i64 e.kind)).setCell ⟨E, 1, none⟩ (.string e.text)).setCell ⟨E, 2, none⟩ (.int .i64 e.num)).setCell ⟨E, 3, none⟩ (.slice ea e.kids.length ec)) : GV w T E tk tl tn e ea ec V' := by
  have h1 := h.hg
  have h2 := h.hT
  have h3 := h.hE
  have hag : ∀ b, b ≠ E → V'.heap[b]? = V.heap[b]? := by
    intro b hb
    rw [hV, Below.heap_setCell _ _ _ _ hb, Below.heap_setCell _ _ _ _ hb, Below.heap_setCell _ _ _ _ hb, Below.heap_setCell _ _ _ _ hb]
  have hsz : V'.heap.size = V.heap.size := by rw [hV]; simp [World.setCell]
  obtain ⟨d, hk⟩ := ht
  refine ⟨(hag _ (by omega)).trans h.r1, (hag _ (by omega)).trans h.r2, (hag _ (by omega)).trans h.t, by rw [hV]; exact (((h.x.set0 _).set1 _).set2 _).set3 _, ⟨d, (hk.agree (by omega) fun b hb _ o => ?_).imp fun b hb _ => by omega⟩, hs, ?_⟩
  · unfold World.cell?
    simp only [hag b (by omega)]
  · rw [hV]
    exact (((h.bel.setCell (p := ⟨E, 0, none⟩) (by show _ ≤ E; omega) _).setCell (p := ⟨E, 1, none⟩) (by show _ ≤ E; omega) _).setCell (p := ⟨E, 2, none⟩) (by show _ ≤ E; omega) _).setCell (p := ⟨E, 3, none⟩) (by show _ ≤ E; omega) _

/-- The end: the boxes are copied into the answer's. -/
theorem GV.done {w : World} {T E : Nat} {tk tl : Int} {tn : ByteArray} {e : Ex} {ea : Option Addr} {ec : Nat} {V : World} (h : GV w T E tk tl tn e ea ec V) {la : Option Addr} {ls : List Lb} (hl : ls.length = 2) {n0 : Nat} (hn0 : w.heap.size + 1 < n0) (hlb : ∀ W : World, V.heap.size ≤ W.heap.size → (∀ b, n0 ≤ b → b < V.heap.size → W.heap[b]? = V.heap[b]?) → Lbs W la 2 ls) {u0 u1 u2 u3 v0 v1 v2 : Value} {W' : World}
    (hW : W' = ((((((V.setCell ⟨w.heap.size, 0, none⟩ u0).setCell ⟨w.heap.size, 1, none⟩ u1).setCell ⟨w.heap.size, 2, none⟩ u2).setCell ⟨w.heap.size, 3, none⟩ u3).setCell ⟨w.heap.size + 1, 0, none⟩ v0).setCell ⟨w.heap.size + 1, 1, none⟩ v1).setCell ⟨w.heap.size + 1, 2, none⟩ v2) :
    DrewG w (.returned (.tuple #[.agg #[.int .i64 e.kind, .string e.text, .int .i64 e.num, .slice ea e.kids.length ec], .agg #[.int .i64 tk, .int .i64 tl, .string tn], .slice la 2 2])) W' := by
  have hag : ∀ b, w.heap.size + 1 < b → W'.heap[b]? = V.heap[b]? := by
    intro b hb
    rw [hW, Below.heap_setCell _ _ _ _ (by show b ≠ w.heap.size + 1; omega), Below.heap_setCell _ _ _ _ (by show b ≠ w.heap.size + 1; omega), Below.heap_setCell _ _ _ _ (by show b ≠ w.heap.size + 1; omega), Below.heap_setCell _ _ _ _ (by show b ≠ w.heap.size; omega), Below.heap_setCell _ _ _ _ (by show b ≠ w.heap.size; omega), Below.heap_setCell _ _ _ _ (by show b ≠ w.heap.size; omega), Below.heap_setCell _ _ _ _ (by show b ≠ w.heap.size; omega)]
  have hsz : W'.heap.size = V.heap.size := by rw [hW]; simp [World.setCell]
  obtain ⟨d, hk⟩ := h.tr
  refine ⟨e, ea, ec, d, tk, tl, tn, la, ls, rfl, h.sm, (hk.agree (w' := W') (by omega) fun b hb _ o => ?_).at, hl, hlb W' (by omega) fun b hb _ => hag b (by omega), ?_⟩
  · unfold World.cell?
    simp only [hag b hb]
  · rw [hW]
    exact ((((((h.bel.setCell (p := ⟨w.heap.size, 0, none⟩) (Nat.le_refl _) _).setCell (p := ⟨w.heap.size, 1, none⟩) (Nat.le_refl _) _).setCell (p := ⟨w.heap.size, 2, none⟩) (Nat.le_refl _) _).setCell (p := ⟨w.heap.size, 3, none⟩) (Nat.le_refl _) _).setCell (p := ⟨w.heap.size + 1, 0, none⟩) (by show _ ≤ w.heap.size + 1; omega) _).setCell (p := ⟨w.heap.size + 1, 1, none⟩) (by show _ ≤ w.heap.size + 1; omega) _).setCell (p := ⟨w.heap.size + 1, 2, none⟩) (by show _ ≤ w.heap.size + 1; omega) _

/-- The same, stored in the other order. -/
theorem GV.done2 {w : World} {T E : Nat} {tk tl : Int} {tn : ByteArray} {e : Ex} {ea : Option Addr} {ec : Nat} {V : World} (h : GV w T E tk tl tn e ea ec V) {la : Option Addr} {ls : List Lb} (hl : ls.length = 2) {n0 : Nat} (hn0 : w.heap.size + 1 < n0) (hlb : ∀ W : World, V.heap.size ≤ W.heap.size → (∀ b, n0 ≤ b → b < V.heap.size → W.heap[b]? = V.heap[b]?) → Lbs W la 2 ls) {u0 u1 u2 u3 v0 v1 v2 : Value} {W' : World}
    (hW : W' = ((((((V.setCell ⟨w.heap.size + 1, 0, none⟩ v0).setCell ⟨w.heap.size + 1, 1, none⟩ v1).setCell ⟨w.heap.size + 1, 2, none⟩ v2).setCell ⟨w.heap.size, 0, none⟩ u0).setCell ⟨w.heap.size, 1, none⟩ u1).setCell ⟨w.heap.size, 2, none⟩ u2).setCell ⟨w.heap.size, 3, none⟩ u3) :
    DrewG w (.returned (.tuple #[.agg #[.int .i64 e.kind, .string e.text, .int .i64 e.num, .slice ea e.kids.length ec], .agg #[.int .i64 tk, .int .i64 tl, .string tn], .slice la 2 2])) W' := by
  have hag : ∀ b, w.heap.size + 1 < b → W'.heap[b]? = V.heap[b]? := by
    intro b hb
    rw [hW, Below.heap_setCell _ _ _ _ (by show b ≠ w.heap.size; omega), Below.heap_setCell _ _ _ _ (by show b ≠ w.heap.size; omega), Below.heap_setCell _ _ _ _ (by show b ≠ w.heap.size; omega), Below.heap_setCell _ _ _ _ (by show b ≠ w.heap.size; omega), Below.heap_setCell _ _ _ _ (by show b ≠ w.heap.size + 1; omega), Below.heap_setCell _ _ _ _ (by show b ≠ w.heap.size + 1; omega), Below.heap_setCell _ _ _ _ (by show b ≠ w.heap.size + 1; omega)]
  have hsz : W'.heap.size = V.heap.size := by rw [hW]; simp [World.setCell]
  obtain ⟨d, hk⟩ := h.tr
  refine ⟨e, ea, ec, d, tk, tl, tn, la, ls, rfl, h.sm, (hk.agree (w' := W') (by omega) fun b hb _ o => ?_).at, hl, hlb W' (by omega) fun b hb _ => hag b (by omega), ?_⟩
  · unfold World.cell?
    simp only [hag b hb]
  · rw [hW]
    exact ((((((h.bel.setCell (p := ⟨w.heap.size + 1, 0, none⟩) (by show _ ≤ w.heap.size + 1; omega) _).setCell (p := ⟨w.heap.size + 1, 1, none⟩) (by show _ ≤ w.heap.size + 1; omega) _).setCell (p := ⟨w.heap.size + 1, 2, none⟩) (by show _ ≤ w.heap.size + 1; omega) _).setCell (p := ⟨w.heap.size, 0, none⟩) (Nat.le_refl _) _).setCell (p := ⟨w.heap.size, 1, none⟩) (Nat.le_refl _) _).setCell (p := ⟨w.heap.size, 2, none⟩) (Nat.le_refl _) _).setCell (p := ⟨w.heap.size, 3, none⟩) (Nat.le_refl _) _

def texts4g : List ByteArray := [⟨#[104, 97, 112, 112, 121]⟩, ⟨#[97]⟩, ⟨#[]⟩, ⟨#[116, 111, 111, 32, 108, 111, 110, 103, 32, 102, 111, 114, 32, 105, 116]⟩]
theorem texts4g_small : ∀ s ∈ texts4g, s.size ≤ 60 := by unfold texts4g; decide

theorem kids_none (E : Nat) (V : World) : ∃ d, KidsQ (fun b => E < b) V d none 0 [] := ⟨1, Nat.le_refl _, by unfold maxLen; omega, fun _ => rfl, fun h => absurd h (by simp)⟩

theorem sm_one {k n : Int} {t : ByteArray} (hk : i64E k) (hn : i64E n) (ht : t.size ≤ 60) : Sm (.mk k t n []) 64 := sm_leaf hk hn ht (by omega)

set_option maxRecDepth 100000 in
set_option maxHeartbeats 4000000 in
theorem specDrawGives (a : Option Addr) (c : Nat) (l : List UInt8) (w : World) (hb : Bytes w a c l) (hs : l.length ≤ 1048576) :
    Calls Tryd.prog 5 #[.slice a l.length c] w (DrewG w) := by
  have hbb := ((Below.refl w.heap.size w).alloc (Nat.le_refl _) (.cells #[.int .i64 0, .string ⟨#[]⟩, .int .i64 0, .slice none 0 0] 26)).alloc (by simp) (.cells #[.int .i64 0, .int .i64 0, .string ⟨#[]⟩] 28)
  have HBY := Lib.hid (hb.below hbb)
  have HB0 := Lib.hid hbb
  have HR1 := Lib.hid ((exRow_new w 0 ⟨#[]⟩ 0 (.slice none 0 0)).alloc (.cells #[.int .i64 0, .int .i64 0, .string ⟨#[]⟩] 28))
  have HR2 : Hid (TyRow ((w.alloc (.cells #[.int .i64 0, .string ⟨#[]⟩, .int .i64 0, .slice none 0 0] 26)).alloc (.cells #[.int .i64 0, .int .i64 0, .string ⟨#[]⟩] 28)) (w.heap.size + 1) 0 0 ⟨#[]⟩) := by
    have := tyRow_new (w.alloc (.cells #[.int .i64 0, .string ⟨#[]⟩, .int .i64 0, .slice none 0 0] 26)) 0 0 ⟨#[]⟩
    rw [size_allocE] at this
    exact this
  clear hb hbb
  go_enter Tryd.func5, Tryd.ntmps5
  go_wp2_with fail
  generalize (w.alloc (.cells #[.int .i64 0, .string ⟨#[]⟩, .int .i64 0, .slice none 0 0] 26)).alloc (.cells #[.int .i64 0, .int .i64 0, .string ⟨#[]⟩] 28) = W0 at HBY HB0 HR1 HR2 ⊢
  refine (l01New a c l W0 HBY.out hs).mono ?_
  rintro e w1 ⟨rfl, hd1, hb1, hz1⟩
  have HB1 := Lib.hid (HB0.out.trans (hb1.mono HB0.out.size))
  have HR11 := Lib.hid (HR1.out.below hb1)
  have HR21 := Lib.hid (HR2.out.below hb1)
  have hg1 : w.heap.size + 1 < W0.heap.size := HR2.out.lt
  have HD1 := Lib.hid hd1
  clear hb1 hz1 hd1
  go_wp2_with fail
  refine (l03Type HD1.out).mono ?_
  rintro e w2 ⟨v, ⟨tk, tl, tn, rfl⟩, rfl, hd2, hg2⟩
  have HGU : Hid (GU w a c l W0 W0.heap.size w2.heap.size (w2.heap.size + 1) tk tl tn ((w2.alloc (.cells #[.int .i64 tk, .int .i64 tl, .string tn] 28)).alloc (.cells #[.int .i64 0, .string ⟨#[]⟩, .int .i64 0, .slice none 0 0] 26))) := by
    have s1 := size_allocE w2 (.cells #[.int .i64 tk, .int .i64 tl, .string tn] 28)
    have x := exRow_new (w2.alloc (.cells #[.int .i64 tk, .int .i64 tl, .string tn] 28)) 0 ⟨#[]⟩ 0 (.slice none 0 0)
    rw [s1] at x
    have b2 := HB1.out.grown hg2 HB1.out.size (fun q hq => by cases hq; omega)
    have r1 := HR11.out.kept hg2 (fun e => by have := Option.some.inj e; omega)
    have r2 := HR21.out.kept hg2 (by omega)
    exact ⟨(r1.alloc _).alloc _, (r2.alloc _).alloc _, (tyRow_new w2 tk tl tn).alloc _, x, (hd2.alloc _).alloc _, (b2.alloc b2.size _).alloc (by have := b2.size; simp; omega) _, hg1, hd2.lt, by omega⟩
  clear hd2 hg2
  go_wp2_with fail
  generalize (w2.alloc (.cells #[.int .i64 tk, .int .i64 tl, .string tn] 28)).alloc (.cells #[.int .i64 0, .string ⟨#[]⟩, .int .i64 0, .slice none 0 0] 26) = W2 at HGU ⊢
  generalize w2.heap.size = T at HGU ⊢
  refine (l01Below HGU.out.deck 6 (by omega) (by omega)).mono ?_
  rintro e w3 ⟨v, ⟨x, rfl, hx0, hx1⟩, rfl, hd3, hg3⟩
  have HG3 := Lib.hid (HGU.out.kept hd3 hg3)
  clear hd3 hg3 HGU
  have hEl : T + 1 < w3.heap.size := HG3.out.x.lt
  obtain ⟨x0, x1, x2, x3, xf⟩ := HG3.out.x.cells
  have hn1 : ¬ w.heap.size = T := by have h1 := HG3.out.hg; have h2 := HG3.out.hT; omega
  have hn2 : ¬ w.heap.size = T + 1 := by have h1 := HG3.out.hg; have h2 := HG3.out.hT; omega
  have hn3 : ¬ w.heap.size + 1 = T := by have h1 := HG3.out.hg; have h2 := HG3.out.hT; omega
  by_cases q0 : x = 0
  · subst q0
    go_wp2_with fail
    refine (l04OddS HG3.out.deck (by have := HG3.out.deck.below.size; exact this)).mono ?_
    rintro y w4 ⟨k, t, n, es, a', c', rfl, hrow, hsm, hdg⟩
    have HG4 := Lib.hid (HG3.out.kept hdg.1 hdg.2)
    obtain ⟨x0, x1, x2, x3, xf⟩ := HG4.out.x.cells
    have hl : (eOf k t n es).kids.length = es.length := List.length_map ..
    have HV : Hid (GV w T (T + 1) tk tl tn (eOf k t n es) a' c' ((((w4.setCell ⟨T + 1, 0, none⟩ (.int .i64 k)).setCell ⟨T + 1, 1, none⟩ (.string t)).setCell ⟨T + 1, 2, none⟩ (.int .i64 n)).setCell ⟨T + 1, 3, none⟩ (.slice a' es.length c'))) := HG4.out.put (e := eOf k t n es) (by obtain ⟨d, hk⟩ := hrow.kids; exact ⟨d, hk.toQ.imp fun b hb _ => by omega⟩) hsm (by rw [hl]; rfl)
    clear hrow hsm hdg hl
    go_wp2_with fail
    generalize (((w4.setCell ⟨T + 1, 0, none⟩ (.int .i64 k)).setCell ⟨T + 1, 1, none⟩ (.string t)).setCell ⟨T + 1, 2, none⟩ (.int .i64 n)).setCell ⟨T + 1, 3, none⟩ (.slice a' es.length c') = V at HV ⊢
    obtain ⟨e, he⟩ : ∃ e : Ex, e = eOf k t n es := ⟨_, rfl⟩
    rw [← he] at HV
    clear he x0 x1 x2 x3 xf
    have HVD := Lib.hid (HV.out.below (below_drewE (Below.refl _ _)))
    have hls : w.heap.size + 1 < V.drew.heap.size := HVD.out.r2.lt
    obtain ⟨x0, x1, x2, x3, xf⟩ := HVD.out.x.cells
    obtain ⟨t0, t1, t2, tf⟩ := HVD.out.t.cells
    go_region_law (go_simp; go_at_call 15; refine (specEnums _).mono ?_; rintro y wq ⟨la, ls, rfl, hll, hlbs, bq⟩; have HVQ := Lib.hid (HVD.out.below bq); have HLB := Lib.hid hlbs; obtain ⟨a0, a1, a2, a3, af⟩ := HVQ.out.x.cells; obtain ⟨c0, c1, c2, cf⟩ := HVQ.out.t.cells; obtain ⟨d0, d1, d2, d3, df⟩ := HVQ.out.r1.cells; obtain ⟨e0, e1, e2, ef⟩ := HVQ.out.r2.cells; clear bq hlbs)
    all_goals
      go_wp2_with fail
      refine bodyPost_ret (v := .tuple #[.agg #[.int .i64 e.kind, .string e.text, .int .i64 e.num, .slice a' e.kids.length c'], .agg #[.int .i64 tk, .int .i64 tl, .string tn], .slice la 2 2]) (by simp [results, Tryd.results5, go_sem, *]) rfl ?_
      first
      | exact HVQ.out.done hll hls HLB.out rfl
      | exact HVQ.out.done2 hll hls HLB.out rfl
  by_cases q1 : x = 1
  · subst q1
    have HV : Hid (GV w T (T + 1) tk tl tn (.mk 1 ⟨#[]⟩ 5 []) none 0 ((((w3.setCell ⟨T + 1, 0, none⟩ (.int .i64 1)).setCell ⟨T + 1, 1, none⟩ (.string ⟨#[]⟩)).setCell ⟨T + 1, 2, none⟩ (.int .i64 5)).setCell ⟨T + 1, 3, none⟩ (.slice none 0 0))) := HG3.out.put (e := .mk 1 ⟨#[]⟩ 5 []) (kids_none _ _) (sm_one (by unfold i64E; omega) (by unfold i64E; omega) (by decide)) rfl
    go_wp2_with fail
    generalize (((w3.setCell ⟨T + 1, 0, none⟩ (.int .i64 1)).setCell ⟨T + 1, 1, none⟩ (.string ⟨#[]⟩)).setCell ⟨T + 1, 2, none⟩ (.int .i64 5)).setCell ⟨T + 1, 3, none⟩ (.slice none 0 0) = V at HV ⊢
    obtain ⟨e, he⟩ : ∃ e : Ex, e = .mk 1 ⟨#[]⟩ 5 [] := ⟨_, rfl⟩
    rw [← he] at HV
    clear he x0 x1 x2 x3 xf
    have HVD := Lib.hid (HV.out.below (below_drewE (Below.refl _ _)))
    have hls : w.heap.size + 1 < V.drew.heap.size := HVD.out.r2.lt
    obtain ⟨x0, x1, x2, x3, xf⟩ := HVD.out.x.cells
    obtain ⟨t0, t1, t2, tf⟩ := HVD.out.t.cells
    go_region_law (go_simp; go_at_call 15; refine (specEnums _).mono ?_; rintro y wq ⟨la, ls, rfl, hll, hlbs, bq⟩; have HVQ := Lib.hid (HVD.out.below bq); have HLB := Lib.hid hlbs; obtain ⟨a0, a1, a2, a3, af⟩ := HVQ.out.x.cells; obtain ⟨c0, c1, c2, cf⟩ := HVQ.out.t.cells; obtain ⟨d0, d1, d2, d3, df⟩ := HVQ.out.r1.cells; obtain ⟨e0, e1, e2, ef⟩ := HVQ.out.r2.cells; clear bq hlbs)
    all_goals
      go_wp2_with fail
      refine bodyPost_ret (v := .tuple #[.agg #[.int .i64 e.kind, .string e.text, .int .i64 e.num, .slice none e.kids.length 0], .agg #[.int .i64 tk, .int .i64 tl, .string tn], .slice la 2 2]) (by simp [results, Tryd.results5, go_sem, *]) rfl ?_
      first
      | exact HVQ.out.done hll hls HLB.out rfl
      | exact HVQ.out.done2 hll hls HLB.out rfl
  have b0 : (x == 0) = false := by rw [beq_eq_false_iff_ne]; exact q0
  have b1 : (x == 1) = false := by rw [beq_eq_false_iff_ne]; exact q1
  by_cases q2 : x = 2
  · subst q2
    clear b0 b1
    go_wp2_with fail
    refine (l01PickIntP (HG3.out.deck.alloc _) (fun z => z = 3 ∨ z = 5) w3.heap.size 2 _ (heap_alloc_new _ _) (by have := HG3.out.deck.lt; omega) rfl (by omega) (by omega) ?_).mono ?_
    · intro k v hv
      have hm := Array.mem_of_getElem? hv
      simp only [List.mem_toArray, List.mem_cons, List.not_mem_nil, or_false] at hm
      rcases hm with rfl | rfl <;> exact ⟨_, rfl, by omega⟩
    rintro y w4 ⟨v, ⟨z, rfl, hz⟩, rfl, hd4, hg4⟩
    have HG4 := Lib.hid ((HG3.out.alloc _).kept hd4 hg4)
    clear hd4 hg4
    obtain ⟨x0, x1, x2, x3, xf⟩ := HG4.out.x.cells
    have HV : Hid (GV w T (T + 1) tk tl tn (.mk z ⟨#[]⟩ 0 []) none 0 ((((w4.setCell ⟨T + 1, 0, none⟩ (.int .i64 z)).setCell ⟨T + 1, 1, none⟩ (.string ⟨#[]⟩)).setCell ⟨T + 1, 2, none⟩ (.int .i64 0)).setCell ⟨T + 1, 3, none⟩ (.slice none 0 0))) := HG4.out.put (e := .mk z ⟨#[]⟩ 0 []) (kids_none _ _) (sm_one (by unfold i64E; omega) (by unfold i64E; omega) (by decide)) rfl
    go_wp2_with fail
    generalize (((w4.setCell ⟨T + 1, 0, none⟩ (.int .i64 z)).setCell ⟨T + 1, 1, none⟩ (.string ⟨#[]⟩)).setCell ⟨T + 1, 2, none⟩ (.int .i64 0)).setCell ⟨T + 1, 3, none⟩ (.slice none 0 0) = V at HV ⊢
    obtain ⟨e, he⟩ : ∃ e : Ex, e = .mk z ⟨#[]⟩ 0 [] := ⟨_, rfl⟩
    rw [← he] at HV
    clear he x0 x1 x2 x3 xf
    have HVD := Lib.hid (HV.out.below (below_drewE (Below.refl _ _)))
    have hls : w.heap.size + 1 < V.drew.heap.size := HVD.out.r2.lt
    obtain ⟨x0, x1, x2, x3, xf⟩ := HVD.out.x.cells
    obtain ⟨t0, t1, t2, tf⟩ := HVD.out.t.cells
    go_region_law (go_simp; go_at_call 15; refine (specEnums _).mono ?_; rintro y wq ⟨la, ls, rfl, hll, hlbs, bq⟩; have HVQ := Lib.hid (HVD.out.below bq); have HLB := Lib.hid hlbs; obtain ⟨a0, a1, a2, a3, af⟩ := HVQ.out.x.cells; obtain ⟨c0, c1, c2, cf⟩ := HVQ.out.t.cells; obtain ⟨d0, d1, d2, d3, df⟩ := HVQ.out.r1.cells; obtain ⟨e0, e1, e2, ef⟩ := HVQ.out.r2.cells; clear bq hlbs)
    all_goals
      go_wp2_with fail
      refine bodyPost_ret (v := .tuple #[.agg #[.int .i64 e.kind, .string e.text, .int .i64 e.num, .slice none e.kids.length 0], .agg #[.int .i64 tk, .int .i64 tl, .string tn], .slice la 2 2]) (by simp [results, Tryd.results5, go_sem, *]) rfl ?_
      first
      | exact HVQ.out.done hll hls HLB.out rfl
      | exact HVQ.out.done2 hll hls HLB.out rfl
  have b2 : (x == 2) = false := by rw [beq_eq_false_iff_ne]; exact q2
  go_wp2_with fail
  refine (pickLit HG3.out.deck texts4g 4 rfl (fun s hs => by have := texts4g_small s hs; unfold maxLen; omega) (by decide) (by decide) _ rfl).mono ?_
  rintro y w4 ⟨v, ⟨s, rfl, hs'⟩, rfl, hd4, hg4⟩
  have hss := texts4g_small s hs'
  have HG4 := Lib.hid ((HG3.out.alloc _).kept hd4 hg4)
  clear hd4 hg4
  obtain ⟨x0, x1, x2, x3, xf⟩ := HG4.out.x.cells
  have HV : Hid (GV w T (T + 1) tk tl tn (.mk 2 s 0 []) none 0 ((((w4.setCell ⟨T + 1, 0, none⟩ (.int .i64 2)).setCell ⟨T + 1, 1, none⟩ (.string s)).setCell ⟨T + 1, 2, none⟩ (.int .i64 0)).setCell ⟨T + 1, 3, none⟩ (.slice none 0 0))) := HG4.out.put (e := .mk 2 s 0 []) (kids_none _ _) (sm_one (by unfold i64E; omega) (by unfold i64E; omega) hss) rfl
  go_wp2_with fail
  generalize (((w4.setCell ⟨T + 1, 0, none⟩ (.int .i64 2)).setCell ⟨T + 1, 1, none⟩ (.string s)).setCell ⟨T + 1, 2, none⟩ (.int .i64 0)).setCell ⟨T + 1, 3, none⟩ (.slice none 0 0) = V at HV ⊢
  obtain ⟨e, he⟩ : ∃ e : Ex, e = .mk 2 s 0 [] := ⟨_, rfl⟩
  rw [← he] at HV
  clear he x0 x1 x2 x3 xf
  have HVD := Lib.hid (HV.out.below (below_drewE (Below.refl _ _)))
  have hls : w.heap.size + 1 < V.drew.heap.size := HVD.out.r2.lt
  obtain ⟨x0, x1, x2, x3, xf⟩ := HVD.out.x.cells
  obtain ⟨t0, t1, t2, tf⟩ := HVD.out.t.cells
  go_region_law (go_simp; go_at_call 15; refine (specEnums _).mono ?_; rintro y wq ⟨la, ls, rfl, hll, hlbs, bq⟩; have HVQ := Lib.hid (HVD.out.below bq); have HLB := Lib.hid hlbs; obtain ⟨a0, a1, a2, a3, af⟩ := HVQ.out.x.cells; obtain ⟨c0, c1, c2, cf⟩ := HVQ.out.t.cells; obtain ⟨d0, d1, d2, d3, df⟩ := HVQ.out.r1.cells; obtain ⟨e0, e1, e2, ef⟩ := HVQ.out.r2.cells; clear bq hlbs)
  all_goals
    go_wp2_with fail
    refine bodyPost_ret (v := .tuple #[.agg #[.int .i64 e.kind, .string e.text, .int .i64 e.num, .slice none e.kids.length 0], .agg #[.int .i64 tk, .int .i64 tl, .string tn], .slice la 2 2]) (by simp [results, Tryd.results5, go_sem, *]) rfl ?_
    first
    | exact HVQ.out.done hll hls HLB.out rfl
    | exact HVQ.out.done2 hll hls HLB.out rfl

end Go.Proofs.YthebkfanpnbanaaDoor
