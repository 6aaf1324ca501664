/- Copies of structures: every list is a row of its own, free to be written. -/
/- Schemas in memory: tables, columns, rules, indexes, views, sequences, enumerations, plans. Written by tools/gen_plan.py. -/
/- Copies of schemas in memory: every list is a row of its own. Written by tools/gen_plan.py. -/
/- The laws' marks: markText answers by its number alone. -/
/- The laws' marks in trees of expressions. -/
import Derived.Test.YtjjdcdnaonfnmaaGreatMTyp2
import Derived.Test.YtjjdcdnaonfnmaaGreatMMem
import Derived.Laws.BytesString
import Derived.Deep.RegionHeld3
import Derived.IntWalk
namespace Go.Proofs.YtjjdcdnaonfnmaaGreat
open Go.RowKit

theorem ownsRow_caps {w : World} {B : Nat} {T : TypeId} {K g n c : Nat} {cs : List Value} (h : w.ownsRow B T K (.slice (some ⟨g, 0, none⟩) n c) n cs) : n ≤ c ∧ c ≤ maxLen := by
  rcases h.2 with ⟨hv, _⟩ | ⟨g', cap, cur, hv, _, _, hnc, hcm, _⟩
  · cases hv
  · simp only [Value.slice.injEq] at hv
    rw [hv.2.2]
    exact ⟨hnc, hcm⟩

/-- Texts in a row of their own, from lo on. -/
def SsU (lo : Nat) (w : World) (a : Option Addr) (c : Nat) (xs : List ByteArray) : Prop := Own w lo a c xs ∧ ∀ s ∈ xs, s.size ≤ maxLen

theorem SsU.kept {lo : Nat} {w w' : World} {a : Option Addr} {c : Nat} {xs : List ByteArray} (h : SsU lo w a c xs) (hk : Kept lo w w') : SsU lo w' a c xs :=
  ⟨ownsRow_block h.1 fun g hg => hk.2 g (h.1.lt hg).1 (h.1.lt hg).2, h.2⟩
theorem SsU.lower {lo lo' : Nat} {w : World} {a : Option Addr} {c : Nat} {xs : List ByteArray} (h : SsU lo w a c xs) (hl : lo' ≤ lo) : SsU lo' w a c xs := ⟨h.1.lower hl, h.2⟩
theorem SsU.weak {lo : Nat} {w : World} {a : Option Addr} {c : Nat} {xs : List ByteArray} (h : SsU lo w a c xs) : Ss lo w a c xs := h.1.ss h.2

/-- Expressions in rows of their own, from lo on, however deep. -/
def KsU (lo : Nat) (w : World) (a : Option Addr) (c : Nat) (xs : List Ex) : Prop := ∃ d bs, KidsO w (d + 1) a c xs bs ∧ ∀ b ∈ bs, lo ≤ b

theorem KsU.kept {lo : Nat} {w w' : World} {a : Option Addr} {c : Nat} {xs : List Ex} (h : KsU lo w a c xs) (hk : Kept lo w w') : KsU lo w' a c xs := by
  obtain ⟨d, bs, h1, h2⟩ := h
  exact ⟨d, bs, h1.agree fun b hb => hk.2 b (h2 b hb) (h1.lt b hb), h2⟩
theorem KsU.lower {lo lo' : Nat} {w : World} {a : Option Addr} {c : Nat} {xs : List Ex} (h : KsU lo w a c xs) (hl : lo' ≤ lo) : KsU lo' w a c xs := by
  obtain ⟨d, bs, h1, h2⟩ := h
  exact ⟨d, bs, h1, fun b hb => Nat.le_trans hl (h2 b hb)⟩

theorem KidsO.toB {w : World} {lo : Nat} : ∀ {d : Nat} {a : Option Addr} {c : Nat} {kids : List Ex} {bs : List Nat}, (∀ b ∈ bs, lo ≤ b) → KidsO w d a c kids bs → KidsB lo w d a c kids
  | 0, _, _, _, _, _, h => h
  | d + 1, a, c, kids, bs, hlo, h => by
    obtain ⟨h1, h2, h3, h4⟩ := h
    refine ⟨h2, h1, h3, fun hp => ?_⟩
    rcases h4 with ⟨rfl, _⟩ | ⟨b, es, bss, ha, rfl, hl, hp, rfl, hown, hkid⟩
    · simp at hp
    · refine ⟨b, 0, ha, hlo b (List.mem_cons_self ..), ownsRow_lt hown, fun i hi => ?_⟩
      have hi' : i < es.length := by simpa using hi
      obtain ⟨hf, hk⟩ := hkid i hi' (by omega)
      obtain ⟨c0, c1, c2, c3⟩ := ecells_at es i hi'
      have e0 := (World.ownsRow.cellAt (w := w) hown (i * 4) (by omega)).trans c0
      have e1 := (World.ownsRow.cellAt (w := w) hown (i * 4 + 1) (by omega)).trans c1
      have e2 := (World.ownsRow.cellAt (w := w) hown (i * 4 + 2) (by omega)).trans c2
      have e3 := (World.ownsRow.cellAt (w := w) hown (i * 4 + 3) (by omega)).trans c3
      rw [Nat.zero_add]
      simp only [List.getElem_map]
      exact ⟨e0, e1, e2, hf, _, _, e3, KidsO.toB (fun g hg => hlo g (List.mem_cons_of_mem _ (List.mem_flatten.2 ⟨_, List.getElem_mem (by omega), hg⟩))) hk⟩

theorem KsU.weak {lo : Nat} {w : World} {a : Option Addr} {c : Nat} {xs : List Ex} (h : KsU lo w a c xs) : Ks lo w a c xs := by
  obtain ⟨d, bs, hk, hb⟩ := h
  exact ⟨d, hk.toB hb⟩

/-- Things in a row of their own, from lo on. -/
def SlU {X : Type} (T : TypeId) (K : Nat) (R : Rd X) (lo : Nat) (w : World) (a : Option Addr) (c : Nat) (xs : List X) : Prop :=
  ∃ (b : Nat) (rows : List (List Value)), a = some ⟨b, 0, none⟩ ∧ lo ≤ b ∧ w.ownsRow b T K (.slice (some ⟨b, 0, none⟩) xs.length c) xs.length rows.flatten ∧ rows.length = xs.length ∧ (∀ r ∈ rows, r.length = K) ∧
    ∀ (i : Nat) (h : i < rows.length) (h' : i < xs.length), R lo w rows[i] xs[i]

theorem SlU.kept {X : Type} {T : TypeId} {K : Nat} {R : Rd X} (G : Good R) {lo : Nat} {w w' : World} {a : Option Addr} {c : Nat} {xs : List X} (h : SlU T K R lo w a c xs) (hk : Kept lo w w') : SlU T K R lo w' a c xs := by
  obtain ⟨b, rows, ha, hl, hown, h1, h2, h3⟩ := h
  exact ⟨b, rows, ha, hl, ownsRow_block hown fun g hg => by cases hg; exact hk.2 b hl (ownsRow_lt hown), h1, h2, fun i hi hi' => G.kept (h3 i hi hi') hk⟩
theorem SlU.lower {X : Type} {T : TypeId} {K : Nat} {R : Rd X} (G : Good R) {lo lo' : Nat} {w : World} {a : Option Addr} {c : Nat} {xs : List X} (h : SlU T K R lo w a c xs) (hl : lo' ≤ lo) : SlU T K R lo' w a c xs := by
  obtain ⟨b, rows, ha, hlb, hown, h1, h2, h3⟩ := h
  exact ⟨b, rows, ha, Nat.le_trans hl hlb, hown, h1, h2, fun i hi hi' => G.lower (h3 i hi hi') hl⟩

/-- The cells of the i-th thing. -/
theorem SlU.cell {X : Type} {T : TypeId} {K b c : Nat} {xs : List X} {rows : List (List Value)} {w : World} (hown : w.ownsRow b T K (.slice (some ⟨b, 0, none⟩) xs.length c) xs.length rows.flatten) (hl : rows.length = xs.length) (hw : ∀ r ∈ rows, r.length = K)
    {i : Nat} (hi : i < rows.length) {j : Nat} (hj : j < rows[i].length) : w.cell? ⟨b, i * K + j, none⟩ = some rows[i][j] := by
  have hK : rows[i].length = K := hw _ (List.getElem_mem hi)
  have hlt : i * K + j < xs.length * K := by
    have : (i + 1) * K ≤ xs.length * K := Nat.mul_le_mul_right K (by omega)
    rw [Nat.add_mul] at this
    omega
  rw [World.ownsRow.cellAt (w := w) hown (i * K + j) hlt, flat_at hw i hi j (by omega), List.getElem?_eq_getElem hj]

theorem SlU.weak {X : Type} {T : TypeId} {K : Nat} {R R' : Rd X} (hR : ∀ {lo : Nat} {w : World} {vs : List Value} {x : X}, R lo w vs x → R' lo w vs x) {lo : Nat} {w : World} {a : Option Addr} {c : Nat} {xs : List X} (h : SlU T K R lo w a c xs) : Sl K R' lo w a c xs := by
  obtain ⟨b, rows, rfl, hl, hown, h1, h2, h3⟩ := h
  obtain ⟨hn, hc⟩ := ownsRow_caps hown
  refine ⟨hn, hc, (fun h => by cases h), fun hp => ⟨b, 0, rfl, hl, ownsRow_lt hown, fun i hi => ⟨rows[i]'(by omega), fun j hj => ?_, hR (h3 i (by omega) hi)⟩⟩⟩
  rw [Nat.zero_add]
  exact SlU.cell hown h1 h2 (by omega) hj

theorem DoneR.endU {X : Type} {T : TypeId} {K : Nat} {R : Rd X} (G : Good R) {z : List Value} {w wr : World} {xs : List X} (h : DoneR T K R z w xs xs.length wr) :
    SlU T K R w.heap.size wr (some ⟨w.heap.size, 0, none⟩) xs.length xs := by
  obtain ⟨_, ⟨rows, hl, hr, hd, hown⟩, hlt, hb⟩ := h
  refine ⟨w.heap.size, rows, rfl, Nat.le_refl _, ?_, hl, hr, fun i hi hi' => G.lower (hd i hi hi') (by omega)⟩
  rw [rfill, ← hl, Nat.sub_self, List.replicate_zero, List.append_nil, hl] at hown
  exact hown

theorem toSsU (a : Option Addr) (c : Nat) (xs : List ByteArray) (w : World) (h : Ss 0 w a c xs) (hn : xs.length + lets xs ≤ 1048576) :
    Calls Tryz.prog 96 #[.slice a xs.length c] w fun e w' => ∃ a' c', e = .returned (.slice a' xs.length c') ∧ SsU w.heap.size w' a' c' xs ∧ Below w.heap.size w w' := by
  refine (toStrs a c xs w h.1 (by omega)).mono ?_
  rintro e w' ⟨a', c', rfl, ho, hb⟩
  exact ⟨a', c', rfl, ⟨ho, h.1.2.2.1⟩, hb⟩

theorem toKsU (a : Option Addr) (c : Nat) (xs : List Ex) (w : World) (h : Ks 0 w a c xs) (hn : xs.length + wtL xs ≤ 1048576) :
    Calls Tryz.prog 99 #[.slice a xs.length c] w fun e w' => ∃ a' c', e = .returned (.slice a' xs.length c') ∧ KsU w.heap.size w' a' c' xs ∧ Below w.heap.size w w' := by
  obtain ⟨d, h⟩ := h
  refine (toKidsO d (toO d) a c xs w h.at hn).mono ?_
  rintro e w' ⟨a', c', bs, rfl, ho, _, hlo, hb⟩
  exact ⟨a', c', rfl, ⟨d, bs, ho, hlo⟩, hb⟩

/-- A world that was turned by marks: every list of the blocks from lo on that w1 has is where it was, and what was an int, a text, a bool still is one. -/
structure Sim (lo : Nat) (w1 w : World) : Prop where
  size : w1.heap.size ≤ w.heap.size
  fz : ∀ b o, lo ≤ b → b < w1.heap.size → w.frozen? ⟨b, o, none⟩ = w1.frozen? ⟨b, o, none⟩
  sl : ∀ b o a n c, lo ≤ b → b < w1.heap.size → w1.cell? ⟨b, o, none⟩ = some (.slice a n c) → w.cell? ⟨b, o, none⟩ = some (.slice a n c)
  it : ∀ b o n, lo ≤ b → b < w1.heap.size → w1.cell? ⟨b, o, none⟩ = some (.int .i64 n) → ∃ n', w.cell? ⟨b, o, none⟩ = some (.int .i64 n')
  st : ∀ b o s, lo ≤ b → b < w1.heap.size → w1.cell? ⟨b, o, none⟩ = some (.string s) → ∃ s', w.cell? ⟨b, o, none⟩ = some (.string s')
  bo : ∀ b o v, lo ≤ b → b < w1.heap.size → w1.cell? ⟨b, o, none⟩ = some (.bool v) → ∃ v', w.cell? ⟨b, o, none⟩ = some (.bool v')

theorem Sim.refl (lo : Nat) (w : World) : Sim lo w w := ⟨Nat.le_refl _, fun _ _ _ _ => rfl, fun _ _ _ _ _ _ _ h => h, fun _ _ _ _ _ h => ⟨_, h⟩, fun _ _ _ _ _ h => ⟨_, h⟩, fun _ _ _ _ _ h => ⟨_, h⟩⟩

theorem Sim.below {lo : Nat} {w1 w w' : World} (h : Sim lo w1 w) (hb : Below w.heap.size w w') : Sim lo w1 w' := by
  have hc : ∀ b o, b < w1.heap.size → w'.cell? ⟨b, o, none⟩ = w.cell? ⟨b, o, none⟩ := fun b o hlt => hb.cell (p := ⟨b, o, none⟩) (Nat.lt_of_lt_of_le hlt h.size)
  refine ⟨Nat.le_trans h.size hb.size, fun b o hl hlt => (hb.frozen (p := ⟨b, o, none⟩) (Nat.lt_of_lt_of_le hlt h.size)).trans (h.fz b o hl hlt), ?_, ?_, ?_, ?_⟩
  · intro b o a n c hl hlt hq; rw [hc b o hlt]; exact h.sl b o a n c hl hlt hq
  · intro b o n hl hlt hq; rw [hc b o hlt]; exact h.it b o n hl hlt hq
  · intro b o n hl hlt hq; rw [hc b o hlt]; exact h.st b o n hl hlt hq
  · intro b o n hl hlt hq; rw [hc b o hlt]; exact h.bo b o n hl hlt hq

theorem Sim.setInt {lo : Nat} {w1 w : World} (h : Sim lo w1 w) {b o : Nat} {n0 : Int} (hc : w.cell? ⟨b, o, none⟩ = some (.int .i64 n0)) (n : Int) : Sim lo w1 (w.setCell ⟨b, o, none⟩ (.int .i64 n)) := by
  have key : ∀ x q v, w.cell? ⟨x, q, none⟩ = some v → ((x = b ∧ q = o) ∧ v = .int .i64 n0 ∧ (w.setCell ⟨b, o, none⟩ (.int .i64 n)).cell? ⟨x, q, none⟩ = some (.int .i64 n)) ∨ (w.setCell ⟨b, o, none⟩ (.int .i64 n)).cell? ⟨x, q, none⟩ = some v := by
    intro x q v hv
    by_cases e : x = b ∧ q = o
    · obtain ⟨rfl, rfl⟩ := e
      rw [hc] at hv
      exact .inl ⟨⟨rfl, rfl⟩, (Option.some.inj hv).symm, World.cell?_setCell_same _ _ _ hc⟩
    · exact .inr ((World.cell?_setCell_other _ _ _ _ (fun q' => e (by cases q'; exact ⟨rfl, rfl⟩))).trans hv)
  refine ⟨by simpa [World.setCell] using h.size, fun x q hl hlt => (World.frozen?_setCell ..).trans (h.fz x q hl hlt), ?_, ?_, ?_, ?_⟩
  · intro x q a m c hl hlt hq
    rcases key x q _ (h.sl x q a m c hl hlt hq) with ⟨_, hv, _⟩ | hv
    · cases hv
    · exact hv
  · intro x q m hl hlt hq
    obtain ⟨m', hm⟩ := h.it x q m hl hlt hq
    rcases key x q _ hm with ⟨_, _, hv⟩ | hv <;> exact ⟨_, hv⟩
  · intro x q m hl hlt hq
    obtain ⟨m', hm⟩ := h.st x q m hl hlt hq
    rcases key x q _ hm with ⟨_, hv, _⟩ | hv
    · cases hv
    · exact ⟨_, hv⟩
  · intro x q m hl hlt hq
    obtain ⟨m', hm⟩ := h.bo x q m hl hlt hq
    rcases key x q _ hm with ⟨_, hv, _⟩ | hv
    · cases hv
    · exact ⟨_, hv⟩

theorem Sim.setStr {lo : Nat} {w1 w : World} (h : Sim lo w1 w) {b o : Nat} {n0 : ByteArray} (hc : w.cell? ⟨b, o, none⟩ = some (.string n0)) (n : ByteArray) : Sim lo w1 (w.setCell ⟨b, o, none⟩ (.string n)) := by
  have key : ∀ x q v, w.cell? ⟨x, q, none⟩ = some v → ((x = b ∧ q = o) ∧ v = .string n0 ∧ (w.setCell ⟨b, o, none⟩ (.string n)).cell? ⟨x, q, none⟩ = some (.string n)) ∨ (w.setCell ⟨b, o, none⟩ (.string n)).cell? ⟨x, q, none⟩ = some v := by
    intro x q v hv
    by_cases e : x = b ∧ q = o
    · obtain ⟨rfl, rfl⟩ := e
      rw [hc] at hv
      exact .inl ⟨⟨rfl, rfl⟩, (Option.some.inj hv).symm, World.cell?_setCell_same _ _ _ hc⟩
    · exact .inr ((World.cell?_setCell_other _ _ _ _ (fun q' => e (by cases q'; exact ⟨rfl, rfl⟩))).trans hv)
  refine ⟨by simpa [World.setCell] using h.size, fun x q hl hlt => (World.frozen?_setCell ..).trans (h.fz x q hl hlt), ?_, ?_, ?_, ?_⟩
  · intro x q a m c hl hlt hq
    rcases key x q _ (h.sl x q a m c hl hlt hq) with ⟨_, hv, _⟩ | hv
    · cases hv
    · exact hv
  · intro x q m hl hlt hq
    obtain ⟨m', hm⟩ := h.it x q m hl hlt hq
    rcases key x q _ hm with ⟨_, hv, _⟩ | hv
    · cases hv
    · exact ⟨_, hv⟩
  · intro x q m hl hlt hq
    obtain ⟨m', hm⟩ := h.st x q m hl hlt hq
    rcases key x q _ hm with ⟨_, _, hv⟩ | hv <;> exact ⟨_, hv⟩
  · intro x q m hl hlt hq
    obtain ⟨m', hm⟩ := h.bo x q m hl hlt hq
    rcases key x q _ hm with ⟨_, hv, _⟩ | hv
    · cases hv
    · exact ⟨_, hv⟩

theorem Sim.setBool {lo : Nat} {w1 w : World} (h : Sim lo w1 w) {b o : Nat} {n0 : Bool} (hc : w.cell? ⟨b, o, none⟩ = some (.bool n0)) (n : Bool) : Sim lo w1 (w.setCell ⟨b, o, none⟩ (.bool n)) := by
  have key : ∀ x q v, w.cell? ⟨x, q, none⟩ = some v → ((x = b ∧ q = o) ∧ v = .bool n0 ∧ (w.setCell ⟨b, o, none⟩ (.bool n)).cell? ⟨x, q, none⟩ = some (.bool n)) ∨ (w.setCell ⟨b, o, none⟩ (.bool n)).cell? ⟨x, q, none⟩ = some v := by
    intro x q v hv
    by_cases e : x = b ∧ q = o
    · obtain ⟨rfl, rfl⟩ := e
      rw [hc] at hv
      exact .inl ⟨⟨rfl, rfl⟩, (Option.some.inj hv).symm, World.cell?_setCell_same _ _ _ hc⟩
    · exact .inr ((World.cell?_setCell_other _ _ _ _ (fun q' => e (by cases q'; exact ⟨rfl, rfl⟩))).trans hv)
  refine ⟨by simpa [World.setCell] using h.size, fun x q hl hlt => (World.frozen?_setCell ..).trans (h.fz x q hl hlt), ?_, ?_, ?_, ?_⟩
  · intro x q a m c hl hlt hq
    rcases key x q _ (h.sl x q a m c hl hlt hq) with ⟨_, hv, _⟩ | hv
    · cases hv
    · exact hv
  · intro x q m hl hlt hq
    obtain ⟨m', hm⟩ := h.it x q m hl hlt hq
    rcases key x q _ hm with ⟨_, hv, _⟩ | hv
    · cases hv
    · exact ⟨_, hv⟩
  · intro x q m hl hlt hq
    obtain ⟨m', hm⟩ := h.st x q m hl hlt hq
    rcases key x q _ hm with ⟨_, hv, _⟩ | hv
    · cases hv
    · exact ⟨_, hv⟩
  · intro x q m hl hlt hq
    obtain ⟨m', hm⟩ := h.bo x q m hl hlt hq
    rcases key x q _ hm with ⟨_, _, hv⟩ | hv <;> exact ⟨_, hv⟩


/-- What turns: the blocks of q, and new ones. -/
def TurnX (q : Nat → Prop) (w w' : World) : Prop :=
  w'.os = w.os ∧ w'.tape = w.tape ∧ w'.output = w.output ∧ w.heap.size ≤ w'.heap.size ∧ ∀ b, b < w.heap.size → ¬ q b → w'.heap[b]? = w.heap[b]?

theorem TurnX.refl (q : Nat → Prop) (w : World) : TurnX q w w := ⟨rfl, rfl, rfl, Nat.le_refl _, fun _ _ _ => rfl⟩
theorem TurnX.trans {q : Nat → Prop} {w w1 w2 : World} (h : TurnX q w w1) (h' : TurnX q w1 w2) : TurnX q w w2 :=
  ⟨h'.1.trans h.1, h'.2.1.trans h.2.1, h'.2.2.1.trans h.2.2.1, Nat.le_trans h.2.2.2.1 h'.2.2.2.1, fun b hb hn => (h'.2.2.2.2 b (Nat.lt_of_lt_of_le hb h.2.2.2.1) hn).trans (h.2.2.2.2 b hb hn)⟩
theorem TurnX.below {q : Nat → Prop} {w w1 w2 : World} (h : TurnX q w w1) (hb : Below w1.heap.size w1 w2) : TurnX q w w2 :=
  ⟨hb.os.trans h.1, hb.tape.trans h.2.1, hb.output.trans h.2.2.1, Nat.le_trans h.2.2.2.1 hb.size, fun b hl hn => (hb.block b (Nat.lt_of_lt_of_le hl h.2.2.2.1)).trans (h.2.2.2.2 b hl hn)⟩
theorem TurnX.set {q : Nat → Prop} {w w1 : World} (h : TurnX q w w1) {b : Nat} (hb : q b) (o : Nat) (v : Value) : TurnX q w (w1.setCell ⟨b, o, none⟩ v) :=
  ⟨h.1, h.2.1, h.2.2.1, by simpa [World.setCell] using h.2.2.2.1, fun x hx hn => by rw [Below.heap_setCell _ _ _ _ (fun e => hn (by rw [e]; exact hb)), h.2.2.2.2 x hx hn]⟩

/-- The world is marked, in the blocks from lo on that w1 has, and new ones. -/
def Mkd (lo : Nat) (w1 w w' : World) : Prop := Sim lo w1 w' ∧ TurnX (fun b => lo ≤ b ∧ b < w1.heap.size) w w'

theorem Mkd.refl {lo : Nat} {w1 w : World} (h : Sim lo w1 w) : Mkd lo w1 w w := ⟨h, TurnX.refl _ _⟩
theorem Mkd.trans {lo : Nat} {w1 w w2 w3 : World} (h : Mkd lo w1 w w2) (h' : Mkd lo w1 w2 w3) : Mkd lo w1 w w3 := ⟨h'.1, h.2.trans h'.2⟩
theorem Mkd.below {lo : Nat} {w1 w w2 w3 : World} (h : Mkd lo w1 w w2) (hb : Below w2.heap.size w2 w3) : Mkd lo w1 w w3 := ⟨h.1.below hb, h.2.below hb⟩
theorem Mkd.setInt {lo : Nat} {w1 w w2 : World} (h : Mkd lo w1 w w2) {b o : Nat} (hl : lo ≤ b) (hb : b < w1.heap.size) {n0 : Int} (hc : w2.cell? ⟨b, o, none⟩ = some (.int .i64 n0)) (n : Int) : Mkd lo w1 w (w2.setCell ⟨b, o, none⟩ (.int .i64 n)) := ⟨h.1.setInt hc n, h.2.set ⟨hl, hb⟩ _ _⟩
theorem Mkd.setStr {lo : Nat} {w1 w w2 : World} (h : Mkd lo w1 w w2) {b o : Nat} (hl : lo ≤ b) (hb : b < w1.heap.size) {n0 : ByteArray} (hc : w2.cell? ⟨b, o, none⟩ = some (.string n0)) (n : ByteArray) : Mkd lo w1 w (w2.setCell ⟨b, o, none⟩ (.string n)) := ⟨h.1.setStr hc n, h.2.set ⟨hl, hb⟩ _ _⟩
theorem Mkd.setBool {lo : Nat} {w1 w w2 : World} (h : Mkd lo w1 w w2) {b o : Nat} (hl : lo ≤ b) (hb : b < w1.heap.size) {n0 : Bool} (hc : w2.cell? ⟨b, o, none⟩ = some (.bool n0)) (n : Bool) : Mkd lo w1 w (w2.setCell ⟨b, o, none⟩ (.bool n)) := ⟨h.1.setBool hc n, h.2.set ⟨hl, hb⟩ _ _⟩

end Go.Proofs.YtjjdcdnaonfnmaaGreat

namespace Go.Proofs.YtjjdcdnaonfnmaaGreat
open Go.RowKit

structure Lab where
  name : ByteArray
  list : List ByteArray

def Lab.fit (x : Lab) : Prop := x.name.size ≤ maxLen

def Lab.wt (x : Lab) : Nat := x.name.size + (x.list.length + lets x.list)

def RLab : Rd Lab := fun lo w vs x => ∃ (a0 : Option Addr) (c0 : Nat), vs = [.string x.name, .slice a0 x.list.length c0] ∧ x.fit ∧ Ss lo w a0 c0 x.list

theorem goodLab : Good RLab := by
  constructor
  · rintro lo w w' vs x ⟨a0, c0, h, f, s0⟩ hk
    exact ⟨a0, c0, h, f, s0.kept hk⟩
  · rintro lo lo' w vs x ⟨a0, c0, h, f, s0⟩ hl
    exact ⟨a0, c0, h, f, s0.lower hl⟩

structure Sq where
  name : ByteArray
  start : Int

def Sq.fit (x : Sq) : Prop := x.name.size ≤ maxLen ∧ i64E x.start

def Sq.wt (x : Sq) : Nat := x.name.size

def RSq : Rd Sq := fun lo w vs x => vs = [.string x.name, .int .i64 x.start] ∧ x.fit

theorem goodSq : Good RSq := by
  constructor
  · rintro lo w w' vs x ⟨h, f⟩ _
    exact ⟨h, f⟩
  · rintro lo lo' w vs x ⟨h, f⟩ _
    exact ⟨h, f⟩

structure Co where
  name : ByteArray
  ty : Ty
  notNull : Bool
  dflt : List Ex

def Co.fit (x : Co) : Prop := x.name.size ≤ maxLen ∧ x.ty.name.size ≤ maxLen ∧ i64E x.ty.kind ∧ i64E x.ty.len

def Co.wt (x : Co) : Nat := x.name.size + x.ty.name.size + (x.dflt.length + wtL x.dflt)

def RCo : Rd Co := fun lo w vs x => ∃ (a0 : Option Addr) (c0 : Nat), vs = [.string x.name, .int .i64 x.ty.kind, .int .i64 x.ty.len, .string x.ty.name, .bool x.notNull, .slice a0 x.dflt.length c0] ∧ x.fit ∧ Ks lo w a0 c0 x.dflt

theorem goodCo : Good RCo := by
  constructor
  · rintro lo w w' vs x ⟨a0, c0, h, f, s0⟩ hk
    exact ⟨a0, c0, h, f, s0.kept hk⟩
  · rintro lo lo' w vs x ⟨a0, c0, h, f, s0⟩ hl
    exact ⟨a0, c0, h, f, s0.lower hl⟩

structure Ru where
  name : ByteArray
  kind : Int
  cols : List ByteArray
  expr : List Ex
  table : ByteArray
  to : List ByteArray

def Ru.fit (x : Ru) : Prop := x.name.size ≤ maxLen ∧ i64E x.kind ∧ x.table.size ≤ maxLen

def Ru.wt (x : Ru) : Nat := x.name.size + (x.cols.length + lets x.cols) + (x.expr.length + wtL x.expr) + x.table.size + (x.to.length + lets x.to)

def RRu : Rd Ru := fun lo w vs x => ∃ (a0 : Option Addr) (c0 : Nat), ∃ (a1 : Option Addr) (c1 : Nat), ∃ (a2 : Option Addr) (c2 : Nat), vs = [.string x.name, .int .i64 x.kind, .slice a0 x.cols.length c0, .slice a1 x.expr.length c1, .string x.table, .slice a2 x.to.length c2] ∧ x.fit ∧ Ss lo w a0 c0 x.cols ∧ Ks lo w a1 c1 x.expr ∧ Ss lo w a2 c2 x.to

theorem goodRu : Good RRu := by
  constructor
  · rintro lo w w' vs x ⟨a0, c0, a1, c1, a2, c2, h, f, s0, s1, s2⟩ hk
    exact ⟨a0, c0, a1, c1, a2, c2, h, f, s0.kept hk, s1.kept hk, s2.kept hk⟩
  · rintro lo lo' w vs x ⟨a0, c0, a1, c1, a2, c2, h, f, s0, s1, s2⟩ hl
    exact ⟨a0, c0, a1, c1, a2, c2, h, f, s0.lower hl, s1.lower hl, s2.lower hl⟩

structure Tb where
  name : ByteArray
  cols : List Co
  rules : List Ru
  token : Int

def Tb.fit (x : Tb) : Prop := x.name.size ≤ maxLen ∧ i64E x.token

def Tb.wt (x : Tb) : Nat := x.name.size + (x.cols.length + wtS Co.wt x.cols) + (x.rules.length + wtS Ru.wt x.rules)

def RTb : Rd Tb := fun lo w vs x => ∃ (a0 : Option Addr) (c0 : Nat), ∃ (a1 : Option Addr) (c1 : Nat), vs = [.string x.name, .slice a0 x.cols.length c0, .slice a1 x.rules.length c1, .int .i64 x.token] ∧ x.fit ∧ Sl 6 RCo lo w a0 c0 x.cols ∧ Sl 6 RRu lo w a1 c1 x.rules

theorem goodTb : Good RTb := by
  constructor
  · rintro lo w w' vs x ⟨a0, c0, a1, c1, h, f, s0, s1⟩ hk
    exact ⟨a0, c0, a1, c1, h, f, s0.kept goodCo hk, s1.kept goodRu hk⟩
  · rintro lo lo' w vs x ⟨a0, c0, a1, c1, h, f, s0, s1⟩ hl
    exact ⟨a0, c0, a1, c1, h, f, s0.lower goodCo hl, s1.lower goodRu hl⟩

structure Ix where
  name : ByteArray
  table : ByteArray
  cols : List ByteArray
  uniq : Bool

def Ix.fit (x : Ix) : Prop := x.name.size ≤ maxLen ∧ x.table.size ≤ maxLen

def Ix.wt (x : Ix) : Nat := x.name.size + x.table.size + (x.cols.length + lets x.cols)

def RIx : Rd Ix := fun lo w vs x => ∃ (a0 : Option Addr) (c0 : Nat), vs = [.string x.name, .string x.table, .slice a0 x.cols.length c0, .bool x.uniq] ∧ x.fit ∧ Ss lo w a0 c0 x.cols

theorem goodIx : Good RIx := by
  constructor
  · rintro lo w w' vs x ⟨a0, c0, h, f, s0⟩ hk
    exact ⟨a0, c0, h, f, s0.kept hk⟩
  · rintro lo lo' w vs x ⟨a0, c0, h, f, s0⟩ hl
    exact ⟨a0, c0, h, f, s0.lower hl⟩

structure Vw where
  name : ByteArray
  table : ByteArray
  cols : List ByteArray
  whr : List Ex

def Vw.fit (x : Vw) : Prop := x.name.size ≤ maxLen ∧ x.table.size ≤ maxLen

def Vw.wt (x : Vw) : Nat := x.name.size + x.table.size + (x.cols.length + lets x.cols) + (x.whr.length + wtL x.whr)

def RVw : Rd Vw := fun lo w vs x => ∃ (a0 : Option Addr) (c0 : Nat), ∃ (a1 : Option Addr) (c1 : Nat), vs = [.string x.name, .string x.table, .slice a0 x.cols.length c0, .slice a1 x.whr.length c1] ∧ x.fit ∧ Ss lo w a0 c0 x.cols ∧ Ks lo w a1 c1 x.whr

theorem goodVw : Good RVw := by
  constructor
  · rintro lo w w' vs x ⟨a0, c0, a1, c1, h, f, s0, s1⟩ hk
    exact ⟨a0, c0, a1, c1, h, f, s0.kept hk, s1.kept hk⟩
  · rintro lo lo' w vs x ⟨a0, c0, a1, c1, h, f, s0, s1⟩ hl
    exact ⟨a0, c0, a1, c1, h, f, s0.lower hl, s1.lower hl⟩

structure Pl where
  enums : List Lab
  seqs : List Sq
  tables : List Tb
  indexes : List Ix
  views : List Vw
  next : Int

def Pl.fit (x : Pl) : Prop := i64E x.next

def Pl.wt (x : Pl) : Nat := (x.enums.length + wtS Lab.wt x.enums) + (x.seqs.length + wtS Sq.wt x.seqs) + (x.tables.length + wtS Tb.wt x.tables) + (x.indexes.length + wtS Ix.wt x.indexes) + (x.views.length + wtS Vw.wt x.views)

def RPl : Rd Pl := fun lo w vs x => ∃ (a0 : Option Addr) (c0 : Nat), ∃ (a1 : Option Addr) (c1 : Nat), ∃ (a2 : Option Addr) (c2 : Nat), ∃ (a3 : Option Addr) (c3 : Nat), ∃ (a4 : Option Addr) (c4 : Nat), vs = [.slice a0 x.enums.length c0, .slice a1 x.seqs.length c1, .slice a2 x.tables.length c2, .slice a3 x.indexes.length c3, .slice a4 x.views.length c4, .int .i64 x.next] ∧ x.fit ∧ Sl 2 RLab lo w a0 c0 x.enums ∧ Sl 2 RSq lo w a1 c1 x.seqs ∧ Sl 4 RTb lo w a2 c2 x.tables ∧ Sl 4 RIx lo w a3 c3 x.indexes ∧ Sl 4 RVw lo w a4 c4 x.views

theorem goodPl : Good RPl := by
  constructor
  · rintro lo w w' vs x ⟨a0, c0, a1, c1, a2, c2, a3, c3, a4, c4, h, f, s0, s1, s2, s3, s4⟩ hk
    exact ⟨a0, c0, a1, c1, a2, c2, a3, c3, a4, c4, h, f, s0.kept goodLab hk, s1.kept goodSq hk, s2.kept goodTb hk, s3.kept goodIx hk, s4.kept goodVw hk⟩
  · rintro lo lo' w vs x ⟨a0, c0, a1, c1, a2, c2, a3, c3, a4, c4, h, f, s0, s1, s2, s3, s4⟩ hl
    exact ⟨a0, c0, a1, c1, a2, c2, a3, c3, a4, c4, h, f, s0.lower goodLab hl, s1.lower goodSq hl, s2.lower goodTb hl, s3.lower goodIx hl, s4.lower goodVw hl⟩

end Go.Proofs.YtjjdcdnaonfnmaaGreat

namespace Go.Proofs.YtjjdcdnaonfnmaaGreat
open Go.RowKit

def RLabU : Rd Lab := fun lo w vs x => ∃ (a0 : Option Addr) (c0 : Nat), vs = [.string x.name, .slice a0 x.list.length c0] ∧ x.fit ∧ SsU lo w a0 c0 x.list

theorem goodLabU : Good RLabU := by
  constructor
  · rintro lo w w' vs x ⟨a0, c0, h, f, s0⟩ hk
    exact ⟨a0, c0, h, f, s0.kept hk⟩
  · rintro lo lo' w vs x ⟨a0, c0, h, f, s0⟩ hl
    exact ⟨a0, c0, h, f, s0.lower hl⟩

theorem weakLab {lo : Nat} {w : World} {vs : List Value} {x : Lab} (h : RLabU lo w vs x) : RLab lo w vs x := by
  obtain ⟨a0, c0, h, f, s0⟩ := h
  exact ⟨a0, c0, h, f, s0.weak⟩

def RSqU : Rd Sq := fun lo w vs x => vs = [.string x.name, .int .i64 x.start] ∧ x.fit

theorem goodSqU : Good RSqU := by
  constructor
  · rintro lo w w' vs x ⟨h, f⟩ _
    exact ⟨h, f⟩
  · rintro lo lo' w vs x ⟨h, f⟩ _
    exact ⟨h, f⟩

theorem weakSq {lo : Nat} {w : World} {vs : List Value} {x : Sq} (h : RSqU lo w vs x) : RSq lo w vs x := by
  obtain ⟨h, f⟩ := h
  exact ⟨h, f⟩

def RCoU : Rd Co := fun lo w vs x => ∃ (a0 : Option Addr) (c0 : Nat), vs = [.string x.name, .int .i64 x.ty.kind, .int .i64 x.ty.len, .string x.ty.name, .bool x.notNull, .slice a0 x.dflt.length c0] ∧ x.fit ∧ KsU lo w a0 c0 x.dflt

theorem goodCoU : Good RCoU := by
  constructor
  · rintro lo w w' vs x ⟨a0, c0, h, f, s0⟩ hk
    exact ⟨a0, c0, h, f, s0.kept hk⟩
  · rintro lo lo' w vs x ⟨a0, c0, h, f, s0⟩ hl
    exact ⟨a0, c0, h, f, s0.lower hl⟩

theorem weakCo {lo : Nat} {w : World} {vs : List Value} {x : Co} (h : RCoU lo w vs x) : RCo lo w vs x := by
  obtain ⟨a0, c0, h, f, s0⟩ := h
  exact ⟨a0, c0, h, f, s0.weak⟩

def RRuU : Rd Ru := fun lo w vs x => ∃ (a0 : Option Addr) (c0 : Nat), ∃ (a1 : Option Addr) (c1 : Nat), ∃ (a2 : Option Addr) (c2 : Nat), vs = [.string x.name, .int .i64 x.kind, .slice a0 x.cols.length c0, .slice a1 x.expr.length c1, .string x.table, .slice a2 x.to.length c2] ∧ x.fit ∧ SsU lo w a0 c0 x.cols ∧ KsU lo w a1 c1 x.expr ∧ SsU lo w a2 c2 x.to

theorem goodRuU : Good RRuU := by
  constructor
  · rintro lo w w' vs x ⟨a0, c0, a1, c1, a2, c2, h, f, s0, s1, s2⟩ hk
    exact ⟨a0, c0, a1, c1, a2, c2, h, f, s0.kept hk, s1.kept hk, s2.kept hk⟩
  · rintro lo lo' w vs x ⟨a0, c0, a1, c1, a2, c2, h, f, s0, s1, s2⟩ hl
    exact ⟨a0, c0, a1, c1, a2, c2, h, f, s0.lower hl, s1.lower hl, s2.lower hl⟩

theorem weakRu {lo : Nat} {w : World} {vs : List Value} {x : Ru} (h : RRuU lo w vs x) : RRu lo w vs x := by
  obtain ⟨a0, c0, a1, c1, a2, c2, h, f, s0, s1, s2⟩ := h
  exact ⟨a0, c0, a1, c1, a2, c2, h, f, s0.weak, s1.weak, s2.weak⟩

def RTbU : Rd Tb := fun lo w vs x => ∃ (a0 : Option Addr) (c0 : Nat), ∃ (a1 : Option Addr) (c1 : Nat), vs = [.string x.name, .slice a0 x.cols.length c0, .slice a1 x.rules.length c1, .int .i64 x.token] ∧ x.fit ∧ SlU 60 6 RCoU lo w a0 c0 x.cols ∧ SlU 85 6 RRuU lo w a1 c1 x.rules

theorem goodTbU : Good RTbU := by
  constructor
  · rintro lo w w' vs x ⟨a0, c0, a1, c1, h, f, s0, s1⟩ hk
    exact ⟨a0, c0, a1, c1, h, f, s0.kept goodCoU hk, s1.kept goodRuU hk⟩
  · rintro lo lo' w vs x ⟨a0, c0, a1, c1, h, f, s0, s1⟩ hl
    exact ⟨a0, c0, a1, c1, h, f, s0.lower goodCoU hl, s1.lower goodRuU hl⟩

theorem weakTb {lo : Nat} {w : World} {vs : List Value} {x : Tb} (h : RTbU lo w vs x) : RTb lo w vs x := by
  obtain ⟨a0, c0, a1, c1, h, f, s0, s1⟩ := h
  exact ⟨a0, c0, a1, c1, h, f, s0.weak weakCo, s1.weak weakRu⟩

def RIxU : Rd Ix := fun lo w vs x => ∃ (a0 : Option Addr) (c0 : Nat), vs = [.string x.name, .string x.table, .slice a0 x.cols.length c0, .bool x.uniq] ∧ x.fit ∧ SsU lo w a0 c0 x.cols

theorem goodIxU : Good RIxU := by
  constructor
  · rintro lo w w' vs x ⟨a0, c0, h, f, s0⟩ hk
    exact ⟨a0, c0, h, f, s0.kept hk⟩
  · rintro lo lo' w vs x ⟨a0, c0, h, f, s0⟩ hl
    exact ⟨a0, c0, h, f, s0.lower hl⟩

theorem weakIx {lo : Nat} {w : World} {vs : List Value} {x : Ix} (h : RIxU lo w vs x) : RIx lo w vs x := by
  obtain ⟨a0, c0, h, f, s0⟩ := h
  exact ⟨a0, c0, h, f, s0.weak⟩

def RVwU : Rd Vw := fun lo w vs x => ∃ (a0 : Option Addr) (c0 : Nat), ∃ (a1 : Option Addr) (c1 : Nat), vs = [.string x.name, .string x.table, .slice a0 x.cols.length c0, .slice a1 x.whr.length c1] ∧ x.fit ∧ SsU lo w a0 c0 x.cols ∧ KsU lo w a1 c1 x.whr

theorem goodVwU : Good RVwU := by
  constructor
  · rintro lo w w' vs x ⟨a0, c0, a1, c1, h, f, s0, s1⟩ hk
    exact ⟨a0, c0, a1, c1, h, f, s0.kept hk, s1.kept hk⟩
  · rintro lo lo' w vs x ⟨a0, c0, a1, c1, h, f, s0, s1⟩ hl
    exact ⟨a0, c0, a1, c1, h, f, s0.lower hl, s1.lower hl⟩

theorem weakVw {lo : Nat} {w : World} {vs : List Value} {x : Vw} (h : RVwU lo w vs x) : RVw lo w vs x := by
  obtain ⟨a0, c0, a1, c1, h, f, s0, s1⟩ := h
  exact ⟨a0, c0, a1, c1, h, f, s0.weak, s1.weak⟩

def RPlU : Rd Pl := fun lo w vs x => ∃ (a0 : Option Addr) (c0 : Nat), ∃ (a1 : Option Addr) (c1 : Nat), ∃ (a2 : Option Addr) (c2 : Nat), ∃ (a3 : Option Addr) (c3 : Nat), ∃ (a4 : Option Addr) (c4 : Nat), vs = [.slice a0 x.enums.length c0, .slice a1 x.seqs.length c1, .slice a2 x.tables.length c2, .slice a3 x.indexes.length c3, .slice a4 x.views.length c4, .int .i64 x.next] ∧ x.fit ∧ SlU 123 2 RLabU lo w a0 c0 x.enums ∧ SlU 125 2 RSqU lo w a1 c1 x.seqs ∧ SlU 55 4 RTbU lo w a2 c2 x.tables ∧ SlU 87 4 RIxU lo w a3 c3 x.indexes ∧ SlU 89 4 RVwU lo w a4 c4 x.views

theorem goodPlU : Good RPlU := by
  constructor
  · rintro lo w w' vs x ⟨a0, c0, a1, c1, a2, c2, a3, c3, a4, c4, h, f, s0, s1, s2, s3, s4⟩ hk
    exact ⟨a0, c0, a1, c1, a2, c2, a3, c3, a4, c4, h, f, s0.kept goodLabU hk, s1.kept goodSqU hk, s2.kept goodTbU hk, s3.kept goodIxU hk, s4.kept goodVwU hk⟩
  · rintro lo lo' w vs x ⟨a0, c0, a1, c1, a2, c2, a3, c3, a4, c4, h, f, s0, s1, s2, s3, s4⟩ hl
    exact ⟨a0, c0, a1, c1, a2, c2, a3, c3, a4, c4, h, f, s0.lower goodLabU hl, s1.lower goodSqU hl, s2.lower goodTbU hl, s3.lower goodIxU hl, s4.lower goodVwU hl⟩

theorem weakPl {lo : Nat} {w : World} {vs : List Value} {x : Pl} (h : RPlU lo w vs x) : RPl lo w vs x := by
  obtain ⟨a0, c0, a1, c1, a2, c2, a3, c3, a4, c4, h, f, s0, s1, s2, s3, s4⟩ := h
  exact ⟨a0, c0, a1, c1, a2, c2, a3, c3, a4, c4, h, f, s0.weak weakLab, s1.weak weakSq, s2.weak weakTb, s3.weak weakIx, s4.weak weakVw⟩

end Go.Proofs.YtjjdcdnaonfnmaaGreat

namespace Go.Proofs.YtjjdcdnaonfnmaaGreat
open Go.RowKit

/-- The digits of k ahead of out. -/
def digits : Nat → Nat → List UInt8 → List UInt8
  | 0, _, out => out
  | f + 1, k, out => if k = 0 then out else digits f (k / 10) ((48 + UInt8.ofNat (k % 10)) :: out)

theorem digits_step (f k : Nat) (out : List UInt8) (h0 : 0 < k) (hf : k ≤ f) : ∃ f', k / 10 ≤ f' ∧ digits f k out = digits f' (k / 10) ((48 + UInt8.ofNat (k % 10)) :: out) := by
  cases f with
  | zero => omega
  | succ f => exact ⟨f, by omega, by rw [digits, if_neg (by omega)]⟩

theorem digits_zero (f : Nat) (out : List UInt8) : digits f 0 out = out := by
  cases f <;> simp [digits]

def markT (k : Nat) : ByteArray := ⟨((109 : UInt8) :: digits k k []).toArray⟩

theorem ba_cons (x : UInt8) (out : List UInt8) : (⟨#[x]⟩ : ByteArray) ++ ⟨out.toArray⟩ = ⟨(x :: out).toArray⟩ := by
  apply ByteArray.ext
  simp [ByteArray.data_append]

theorem convOne (W : World) (g : Nat) (x : Int) (h : W.cell? ⟨g, 0, none⟩ = some (.int .u8 x)) :
    (convert 143 9 (.slice (some ⟨g, 0, none⟩) 1 1)).run Tryz.prog W = .ok (.string ⟨#[UInt8.ofNat x.toNat]⟩) W := by
  rw [run_convert_bytes_string W _ _ _ _ _ _ Tryz.underlying143 Tryz.underlying5 Tryz.underlying9, run_bytesToString W _ 1 1 [x]]
  · rfl
  · simp [loadCells, h, go_sem]

set_option maxHeartbeats 400000 in
theorem markText (k0 : Nat) (w : World) (h1 : 1 ≤ k0) (h2 : k0 ≤ 16777216) :
    Calls Tryz.prog 46 #[.int .i64 (k0 : Int)] w fun e w' => e = .returned (.string (markT k0)) ∧ Below w.heap.size w w' := by
  go_enter Tryz.func46, Tryz.ntmps46
  go_wp2
  go_loopw [0, 3] (fun n o wr => ∃ (k f : Nat) (out : List UInt8), n = .int .i64 k ∧ o = .string ⟨out.toArray⟩ ∧ k ≤ f ∧ out.length + k ≤ k0 ∧ Hid (digits f k out = digits k0 k0 []) ∧ Below w.heap.size w wr) (fun n _ _ => (intOf n).toNat)
  case atStart => exact ⟨k0, k0, [], rfl, rfl, by omega, by simp, rfl, Below.refl _ _⟩
  case round =>
    obtain ⟨k, f, out, rfl, rfl, hf, hlen, hd, hb⟩ := hrel
    by_cases hp : 0 < k
    · obtain ⟨f', hf', hst⟩ := digits_step f k out hp hf
      have H := Lib.hid (hst.symm.trans hd.out)
      have hcv := fun (W : World) (g : Nat) (x : Int) => convOne W g x
      clear hst hd
      go_wp2
      go_roundw
      case rel => exact ⟨k / 10, f', (48 + UInt8.ofNat (k % 10)) :: out, by simp, congrArg Value.string (ba_cons _ _), hf', by simp; omega, H, hb.alloc hb.size _⟩
      case measure => simp [intOf]; omega
    · obtain rfl : k = 0 := by omega
      have hd' := hd.out
      rw [digits_zero] at hd'
      have H : Hid (Value.string (⟨#[109]⟩ ++ ⟨out.toArray⟩) = .string (markT k0)) := by
        unfold Hid markT; rw [ba_cons, hd']
      clear hd hd'
      go_wp2
      go_ret
      exact ⟨congrArg Ending.returned H.out, hb⟩

theorem digits_size (f k : Nat) (out : List UInt8) : (digits f k out).length ≤ out.length + f := by
  induction f generalizing k out with
  | zero => simp [digits]
  | succ f ih =>
    rw [digits]
    split
    · omega
    · have := ih (k / 10) ((48 + UInt8.ofNat (k % 10)) :: out)
      simp at this
      omega

theorem markT_size (k : Nat) : (markT k).size ≤ k + 1 := by
  have := digits_size k k []
  simp at this
  simp [markT, ByteArray.size]
  omega

end Go.Proofs.YtjjdcdnaonfnmaaGreat

namespace Go.Proofs.YtjjdcdnaonfnmaaGreat
open Go.RowKit

mutual
def markE (k : Nat) : Ex → Ex
  | .mk _ _ _ kids => .mk (k : Int) (markT (k + 1)) ((k + 2 : Nat) : Int) (markL (k + 3) kids)
def markL (k : Nat) : List Ex → List Ex
  | [] => []
  | e :: r => markE k e :: markL (k + 3 * e.nodes) r
end

theorem markE_eq (k : Nat) (e : Ex) : markE k e = .mk (k : Int) (markT (k + 1)) ((k + 2 : Nat) : Int) (markL (k + 3) e.kids) := by
  cases e; rw [markE]; rfl

theorem markL_length (k : Nat) (l : List Ex) : (markL k l).length = l.length := by
  induction l generalizing k with
  | nil => simp [markL]
  | cons e r ih => simp [markL, ih]

theorem markL_at (k : Nat) (l : List Ex) (i : Nat) (h : i < l.length) (h' : i < (markL k l).length) : (markL k l)[i] = markE (k + 3 * nodesL (l.take i)) l[i] := by
  induction l generalizing k i with
  | nil => simp at h
  | cons e r ih =>
    cases i with
    | zero => simp [markL, nodesL]
    | succ i =>
      simp only [markL, List.getElem_cons_succ, List.take_succ_cons, nodesL]
      rw [ih (k + 3 * e.nodes) i (by simpa using h)]
      congr 1
      omega

/-- The first i of the kids are marked. -/
def markI (k : Nat) (l : List Ex) (i : Nat) : List Ex := (markL k l).take i ++ l.drop i

theorem markI_length (k : Nat) (l : List Ex) (i : Nat) : (markI k l i).length = l.length := by
  unfold markI; simp [markL_length]; omega

theorem markI_set (k : Nat) (l : List Ex) (i : Nat) (h : i < l.length) : (markI k l i).set i (markE (k + 3 * nodesL (l.take i)) l[i]) = markI k l (i + 1) := by
  have hl := markL_length k l
  unfold markI
  rw [List.set_append_right _ _ (by simp; omega)]
  have hlt : ((markL k l).take i).length = i := by simp; omega
  rw [hlt, Nat.sub_self, List.drop_eq_getElem_cons h, List.set_cons_zero, List.take_succ_eq_append_getElem (by omega), markL_at k l i h, List.append_assoc]
  rfl

theorem markI_at (k : Nat) (l : List Ex) (i : Nat) (h : i < l.length) : (markI k l i)[i]? = some l[i] := by
  have hl := markL_length k l
  have hlt : ((markL k l).take i).length = i := by simp; omega
  unfold markI
  rw [List.getElem?_append_right (by omega), hlt, Nat.sub_self, List.getElem?_drop, Nat.add_zero, List.getElem?_eq_getElem h]

theorem markI_zero (k : Nat) (l : List Ex) : markI k l 0 = l := by simp [markI]
theorem markI_all (k : Nat) (l : List Ex) : markI k l l.length = markL k l := by
  unfold markI
  rw [List.drop_length, List.append_nil]
  conv => lhs; rw [← markL_length k l]
  exact List.take_length

/-- What turns: the blocks bs, and new ones. -/
def TurnB (w w' : World) (bs : List Nat) : Prop :=
  w'.os = w.os ∧ w'.tape = w.tape ∧ w'.output = w.output ∧ w.heap.size ≤ w'.heap.size ∧ ∀ k, k < w.heap.size → k ∉ bs → w'.heap[k]? = w.heap[k]?

theorem TurnB.refl (w : World) (bs : List Nat) : TurnB w w bs := ⟨rfl, rfl, rfl, Nat.le_refl _, fun _ _ _ => rfl⟩
theorem TurnB.trans {w w1 w2 : World} {bs bs' : List Nat} (h : TurnB w w1 bs) (h' : TurnB w1 w2 bs') (hs : ∀ b ∈ bs', b ∈ bs) : TurnB w w2 bs :=
  ⟨h'.1.trans h.1, h'.2.1.trans h.2.1, h'.2.2.1.trans h.2.2.1, Nat.le_trans h.2.2.2.1 h'.2.2.2.1, fun k hk hn => by
    rw [h'.2.2.2.2 k (Nat.lt_of_lt_of_le hk h.2.2.2.1) (fun hm => hn (hs k hm)), h.2.2.2.2 k hk hn]⟩
theorem TurnB.below {w w1 w2 : World} {bs : List Nat} (h : TurnB w w1 bs) (hb : Below w1.heap.size w1 w2) : TurnB w w2 bs :=
  ⟨hb.os.trans h.1, hb.tape.trans h.2.1, hb.output.trans h.2.2.1, Nat.le_trans h.2.2.2.1 hb.size, fun k hk hn => by
    rw [hb.block k (Nat.lt_of_lt_of_le hk h.2.2.2.1), h.2.2.2.2 k hk hn]⟩
theorem TurnB.set {w w1 : World} {bs : List Nat} (h : TurnB w w1 bs) {b : Nat} (hb : b ∈ bs) (o : Nat) (v : Value) : TurnB w (w1.setCell ⟨b, o, none⟩ v) bs :=
  ⟨h.1, h.2.1, h.2.2.1, by simpa [World.setCell] using h.2.2.2.1, fun k hk hn => by
    rw [Below.heap_setCell _ _ _ _ (fun e => hn (by rw [e]; exact hb)), h.2.2.2.2 k hk hn]⟩
/-- What is turned lies at or above B. -/
theorem TurnB.bel {w w' : World} {bs : List Nat} {B : Nat} (h : TurnB w w' bs) (hB : ∀ b ∈ bs, B ≤ b) (hs : B ≤ w.heap.size) : Below B w w' :=
  ⟨h.1, h.2.1, h.2.2.1, h.2.2.2.1, fun k hk => h.2.2.2.2 k (Nat.lt_of_lt_of_le hk hs) (fun hm => by have := hB k hm; omega)⟩

/-- A row of kids that owns its blocks. -/
structure RowO (w : World) (d b c : Nat) (es : List Es) (bss : List (List Nat)) : Prop where
  len : bss.length = es.length
  own : w.ownsRow b 162 4 (.slice (some ⟨b, 0, none⟩) es.length c) es.length (ecells es)
  kid : ∀ (i : Nat) (h : i < es.length) (h' : i < bss.length), es[i].e.fit ∧ KidsO w d es[i].a es[i].c es[i].e.kids bss[i]

theorem ecells_set3 (ys : List Es) (k : Nat) (x : Es) (h : k < ys.length) (hs : x.s = ys[k].s) : (((ecells ys).set (k * 4) x.k).set (k * 4 + 1) x.t).set (k * 4 + 2) x.n = ecells (ys.set k x) := by
  induction ys generalizing k with
  | nil => simp at h
  | cons y r ih =>
    cases k with
    | zero =>
      have e : ∀ (z : Es) s, ecells (z :: s) = z.k :: z.t :: z.n :: z.s :: ecells s := fun _ _ => rfl
      rw [List.set_cons_zero, e, e, hs]
      rfl
    | succ k =>
      have e : ∀ (z : Es) s, ecells (z :: s) = z.k :: z.t :: z.n :: z.s :: ecells s := fun _ _ => rfl
      rw [List.set_cons_succ, e, e, show (k + 1) * 4 = k * 4 + 1 + 1 + 1 + 1 by omega]
      simp only [List.set_cons_succ]
      rw [← ih k (by simpa using h) (by simpa using hs)]

theorem flat_disj {bss : List (List Nat)} (h : bss.flatten.Nodup) {i j : Nat} (hi : i < bss.length) (hj : j < bss.length) (hne : i ≠ j) {x : Nat} (hx : x ∈ bss[i]) : x ∉ bss[j] := by
  induction bss generalizing i j with
  | nil => simp at hi
  | cons l r ih =>
    rw [List.flatten_cons, List.nodup_append] at h
    obtain ⟨h1, h2, h3⟩ := h
    intro hxj
    cases i with
    | zero =>
      cases j with
      | zero => exact hne rfl
      | succ j => exact h3 x (by simpa using hx) x (List.mem_flatten.2 ⟨_, List.getElem_mem (by simpa using hj), by simpa using hxj⟩) rfl
    | succ i =>
      cases j with
      | zero => exact h3 x (by simpa using hxj) x (List.mem_flatten.2 ⟨_, List.getElem_mem (by simpa using hi), by simpa using hx⟩) rfl
      | succ j => exact ih h2 (by simpa using hi) (by simpa using hj) (by omega) (by simpa using hx) (by simpa using hxj)

/-- One kid marked, with all below it. -/
theorem RowO.mark {wr w2 w3 w4 : World} {d b c i p : Nat} {es : List Es} {bss : List (List Nat)} (h : RowO wr d b c es bss) (hi : i < es.length) (hi' : i < bss.length) (hnd : (b :: bss.flatten).Nodup) (hp : p + 3 ≤ 16777216) {z : Int} (hz : z = ((p + 2 : Nat) : Int))
    (h2 : Below wr.heap.size (wr.setCell ⟨b, i * 4, none⟩ (.int .i64 (p : Int))) w2)
    (h3 : w3 = (w2.setCell ⟨b, i * 4 + 1, none⟩ (.string (markT (p + 1)))).setCell ⟨b, i * 4 + 2, none⟩ (.int .i64 z))
    (h4 : TurnB w3 w4 bss[i]) (hk4 : KidsO w4 d es[i].a es[i].c (markL (p + 3) es[i].e.kids) bss[i]) :
    RowO w4 d b c (es.set i ⟨markE p es[i].e, es[i].a, es[i].c⟩) bss ∧ TurnB wr w4 (b :: bss.flatten) := by
  subst hz
  obtain ⟨hb1, hb2⟩ := List.nodup_cons.1 hnd
  have hbw := ownsRow_lt h.own
  have hmem : ∀ x, x ∈ bss[i] → x ∈ b :: bss.flatten := fun x hx => List.mem_cons_of_mem _ (List.mem_flatten.2 ⟨_, List.getElem_mem hi', hx⟩)
  have hbi : b ∉ bss[i] := fun hm => hb1 (List.mem_flatten.2 ⟨_, List.getElem_mem hi', hm⟩)
  have hs1 : (wr.setCell ⟨b, i * 4, none⟩ (.int .i64 (p : Int))).heap.size = wr.heap.size := by simp [World.setCell]
  have T1 : TurnB wr (wr.setCell ⟨b, i * 4, none⟩ (.int .i64 (p : Int))) (b :: bss.flatten) := (TurnB.refl wr _).set (List.mem_cons_self ..) _ _
  have T2 : TurnB wr w2 (b :: bss.flatten) := T1.below (by rw [hs1]; exact h2)
  have T3 : TurnB wr w3 (b :: bss.flatten) := by subst h3; exact (T2.set (List.mem_cons_self ..) _ _).set (List.mem_cons_self ..) _ _
  have T4 := T3.trans h4 hmem
  refine ⟨⟨by simpa using h.len, ?_, fun j hj hj' => ?_⟩, T4⟩
  · have R0 := (h.own.stored (i * 4) (.int .i64 (p : Int))).1
    have R0' := ownsRow_block R0 (w' := w2) fun g hg => by cases hg; exact h2.block b (by rw [← hs1] at hbw; exact hs1 ▸ hbw)
    have R1 := (R0'.stored (i * 4 + 1) (.string (markT (p + 1)))).1
    have R2 := (R1.stored (i * 4 + 2) (.int .i64 ((p + 2 : Nat) : Int))).1
    rw [← h3] at R2
    have hset := ecells_set3 es i ⟨markE p es[i].e, es[i].a, es[i].c⟩ hi (by unfold Es.s; simp only; rw [markE_eq]; simp only [Ex.kids]; rw [markL_length])
    unfold Es.k Es.t Es.n at hset
    simp only [markE_eq, Ex.kind, Ex.text, Ex.num] at hset
    rw [← markE_eq] at hset
    rw [hset] at R2
    have hw3l : b < w3.heap.size := ownsRow_lt R2
    have := ownsRow_block R2 (w' := w4) fun g hg => by cases hg; exact h4.2.2.2.2 b hw3l hbi
    rw [List.length_set]
    exact this
  · have hj2 : j < es.length := by simpa using hj
    by_cases hji : j = i
    · subst hji
      simp only [List.getElem_set_self]
      rw [markE_eq]
      refine ⟨⟨?_, ?_, ?_⟩, hk4⟩
      · have := markT_size (p + 1); simp only [Ex.text]; unfold maxLen; omega
      · simp only [Ex.kind]; unfold i64E; omega
      · simp only [Ex.num]; unfold i64E; omega
    · rw [List.getElem_set_ne (fun e => hji e.symm)]
      obtain ⟨hf, hk⟩ := h.kid j hj2 hj'
      refine ⟨hf, hk.agree fun x hx => ?_⟩
      have hxi : x ∉ bss[i] := flat_disj hb2 hj' hi' hji hx
      have hxb : x ≠ b := fun e => hb1 (by rw [← e]; exact List.mem_flatten.2 ⟨_, List.getElem_mem hj', hx⟩)
      have hxl := hk.lt x hx
      have hl3 : x < w3.heap.size := Nat.lt_of_lt_of_le hxl T3.2.2.2.1
      rw [h4.2.2.2.2 x hl3 hxi, h3, Below.heap_setCell _ _ _ _ hxb, Below.heap_setCell _ _ _ _ hxb, h2.block x hxl, Below.heap_setCell _ _ _ _ hxb]

def MarkP (d : Nat) : Prop := ∀ (a : Option Addr) (c : Nat) (kids : List Ex) (bs : List Nat) (k : Nat) (w : World), KidsO w d a c kids bs → bs.Nodup → 1 ≤ k → k + 3 * nodesL kids ≤ 8388608 →
  Calls Tryz.prog 87 #[.slice a kids.length c, .int .i64 (k : Int)] w fun x w' => x = .returned (.int .i64 ((k + 3 * nodesL kids : Nat) : Int)) ∧ KidsO w' d a c (markL k kids) bs ∧ TurnB w w' bs

theorem nodesL_takeM (l : List Ex) (k : Nat) : nodesL (l.take k) ≤ nodesL l := by
  induction l generalizing k with
  | nil => simp
  | cons x r ih =>
    cases k with
    | zero => simp [nodesL]
    | succ k => simp only [List.take_succ_cons, nodesL]; have := ih k; omega

set_option maxRecDepth 100000 in
set_option maxHeartbeats 2000000 in
theorem markKids : ∀ d, MarkP d
  | 0 => fun _ _ _ _ _ _ h => h.elim
  | d + 1 => by
    intro a c kids bs k w hk hnd hk1 hk2
    have ih := markKids d
    have hlen := hk.at.len
    rcases hk.2.2.2 with ⟨rfl, rfl⟩ | ⟨b, es, bss, rfl, rfl, hl, hp, rfl, hown, hkid⟩
    · have HK := Lib.hid hk
      clear hk
      go_enter Tryz.func87, Tryz.ntmps87
      go_wp2_with fail
      go_loopw [1, 5] (fun q i wr => q = .int .i64 (k : Int) ∧ i = .int .i64 0 ∧ wr = w) (fun _ _ _ => 0)
      case atStart => exact ⟨rfl, rfl, rfl⟩
      case round =>
        obtain ⟨rfl, rfl, rfl⟩ := hrel
        go_wp2_with fail
        go_ret
        exact ⟨by simp [nodesL], by simpa [markL] using HK.out, TurnB.refl _ _⟩
    · have hR : RowO w d b c es bss := ⟨hl, hown, hkid⟩
      have HH := Lib.hid (show c ≤ maxLen ∧ (es.map Es.e).length ≤ c from ⟨hk.1, hk.2.1⟩)
      have hlm : (es.map Es.e).length = es.length := List.length_map ..
      generalize hkk : es.map Es.e = kids at *
      have HM0 : Hid (es.map Es.e = markI k kids 0) := by unfold Hid; rw [markI_zero, hkk]
      have hbw := ownsRow_lt hown
      have hme : es.length ≤ 9223372036854775807 := by omega
      clear hk hown hkid hkk
      rw [hlm]
      go_enter Tryz.func87, Tryz.ntmps87
      go_wp2_with fail
      go_loopw [1, 5] (fun q i wr => ∃ (j p : Nat) (es' : List Es), j ≤ es.length ∧ i = .int .i64 j ∧ q = .int .i64 (p : Int) ∧ p ≤ 8388608 ∧ 1 ≤ p ∧ Hid (p = k + 3 * nodesL (kids.take j)) ∧ Hid (es'.map Es.e = markI k kids j) ∧ Hid (RowO wr d b c es' bss ∧ TurnB w wr (b :: bss.flatten))) (fun _ i _ => es.length - (intOf i).toNat)
      case atStart => exact ⟨0, k, es, Nat.zero_le _, rfl, rfl, by omega, hk1, by unfold Hid; simp [nodesL], HM0, hR, TurnB.refl _ _⟩
      case round =>
        obtain ⟨j, p, es', hj, rfl, rfl, hpb, hp1, Hp, HM, HR⟩ := hrel
        have hle' : es'.length = es.length := by have := congrArg List.length HM.out; rw [List.length_map, markI_length] at this; omega
        by_cases hlt : j < es.length
        · have hj' : j < es'.length := by omega
          have hjk : j < kids.length := by omega
          have hjb : j < bss.length := by rw [HR.out.1.len]; exact hj'
          obtain ⟨t0, t1, t2, t3⟩ := ecells_at es' j hj'
          have hown' := HR.out.1.own
          have c0 := (World.ownsRow.cellAt (w := wr) hown' (j * 4) (by omega)).trans t0
          have c1 := (World.ownsRow.cellAt (w := wr) hown' (j * 4 + 1) (by omega)).trans t1
          have c2 := (World.ownsRow.cellAt (w := wr) hown' (j * 4 + 2) (by omega)).trans t2
          have c3 := (World.ownsRow.cellAt (w := wr) hown' (j * 4 + 3) (by omega)).trans t3
          have f0 : wr.frozen? ⟨b, j * 4, none⟩ = false := hown'.frozenAt _
          have f1 : wr.frozen? ⟨b, j * 4 + 1, none⟩ = false := hown'.frozenAt _
          have f2 : wr.frozen? ⟨b, j * 4 + 2, none⟩ = false := hown'.frozenAt _
          have hbl := ownsRow_lt hown'
          unfold Es.k at c0
          unfold Es.t at c1
          unfold Es.n at c2
          unfold Es.s at c3
          have hej : es'[j].e = kids[j] := by
            have h1 : (es'.map Es.e)[j]? = (markI k kids j)[j]? := by rw [HM.out]
            rw [List.getElem?_map, List.getElem?_eq_getElem hj', markI_at k kids j hjk] at h1
            exact Option.some.inj h1
          have HNT : Hid (nodesL (kids.take (j + 1)) = nodesL (kids.take j) + kids[j].nodes) := nodesL_take kids j hjk
          have HNM : Hid (nodesL (kids.take (j + 1)) ≤ nodesL kids) := nodesL_takeM kids (j + 1)
          have HNE : Hid (kids[j].nodes = 1 + nodesL kids[j].kids) := Ex.nodes_eq _
          have hbk : Hid (p + 3 + 3 * nodesL kids[j].kids ≤ 8388608) := by have h1 := Hp.out; have h2 := HNT.out; have h3 := HNM.out; have h4 := HNE.out; unfold Hid; omega
          have hp3 : p + 3 ≤ 8388608 := by have := hbk.out; omega
          have HKJ := Lib.hid (HR.out.1.kid j hj' hjb)
          obtain ⟨hb1, hb2⟩ := List.nodup_cons.1 hnd
          have hndj : Hid (bss[j].Nodup) := by
            unfold Hid
            exact (List.pairwise_flatten.1 hb2).1 _ (List.getElem_mem hjb)
          have hbj : Hid (b ∉ bss[j]) := fun hm => hb1 (List.mem_flatten.2 ⟨_, List.getElem_mem hjb, hm⟩)
          generalize hy0 : es'[j].e.kind = y0 at c0
          generalize hy1 : es'[j].e.text = y1 at c1
          generalize hy2 : es'[j].e.num = y2 at c2
          have hkl : es'[j].e.kids.length = kids[j].kids.length := by rw [hej]
          rw [hkl] at c3
          have HJ := Lib.hid hej
          have hmt : Hid (∀ z : Int, z = ((p + 1 : Nat) : Int) → ∀ W, Calls Tryz.prog 46 #[.int .i64 z] W fun e w' => e = .returned (.string (markT (p + 1))) ∧ Below W.heap.size W w') := fun z hz W => by
            subst hz; exact markText (p + 1) W (by omega) (by omega)
          have hih : Hid (∀ z : Int, z = ((p + 3 : Nat) : Int) → ∀ W, KidsO W d es'[j].a es'[j].c kids[j].kids bss[j] → Calls Tryz.prog 87 #[.slice es'[j].a kids[j].kids.length es'[j].c, .int .i64 z] W fun x w' => x = .returned (.int .i64 ((p + 3 + 3 * nodesL kids[j].kids : Nat) : Int)) ∧ KidsO w' d es'[j].a es'[j].c (markL (p + 3) kids[j].kids) bss[j] ∧ TurnB W w' bss[j]) := fun z hz W hW => by
            subst hz; exact ih _ _ _ _ (p + 3) W hW hndj.out (by omega) hbk.out
          have hj0 : (0 : Int) ≤ (j : Int) := by omega
          clear t0 t1 t2 t3 hown' hej hy0 hy1 hy2 hkl hb1 hb2 ih
          go_wp2_with fail
          refine (hmt.out _ (by omega) _).mono ?_
          rintro x w2 ⟨rfl, hb2⟩
          have hs1 : (wr.setCell ⟨b, j * 4, none⟩ (.int .i64 (p : Int))).heap.size = wr.heap.size := by simp [World.setCell]
          have hW1 : b < (wr.setCell ⟨b, j * 4, none⟩ (.int .i64 (p : Int))).heap.size := by omega
          have d1 : w2.cell? ⟨b, j * 4 + 1, none⟩ = some (.string y1) := (hb2.cell (p := ⟨b, j * 4 + 1, none⟩) hW1).trans ((World.cell?_setCell_other _ _ _ _ (by simp)).trans c1)
          have d2 : w2.cell? ⟨b, j * 4 + 2, none⟩ = some (.int .i64 y2) := (hb2.cell (p := ⟨b, j * 4 + 2, none⟩) hW1).trans ((World.cell?_setCell_other _ _ _ _ (by simp)).trans c2)
          have d3 : w2.cell? ⟨b, j * 4 + 3, none⟩ = some (.slice es'[j].a kids[j].kids.length es'[j].c) := (hb2.cell (p := ⟨b, j * 4 + 3, none⟩) hW1).trans ((World.cell?_setCell_other _ _ _ _ (by simp)).trans c3)
          have e1 : w2.frozen? ⟨b, j * 4 + 1, none⟩ = false := (hb2.frozen (p := ⟨b, j * 4 + 1, none⟩) hW1).trans (by rw [World.frozen?_setCell]; exact f1)
          have e2 : w2.frozen? ⟨b, j * 4 + 2, none⟩ = false := (hb2.frozen (p := ⟨b, j * 4 + 2, none⟩) hW1).trans (by rw [World.frozen?_setCell]; exact f2)
          have hb2' : Below wr.heap.size (wr.setCell ⟨b, j * 4, none⟩ (.int .i64 (p : Int))) w2 := by rw [hs1] at hb2; exact hb2
          have HB2 := Lib.hid hb2'
          have HK3 : Hid (∀ w3 : World, (∀ x, x ≠ b → w3.heap[x]? = w2.heap[x]?) → KidsO w3 d es'[j].a es'[j].c kids[j].kids bss[j]) := by
            intro w3 h3
            have hk := HKJ.out.2
            rw [HJ.out] at hk
            refine hk.agree fun x hx => ?_
            have hxb : x ≠ b := fun e => hbj.out (by rw [← e]; exact hx)
            rw [h3 x hxb, HB2.out.block x (hk.lt x hx), Below.heap_setCell _ _ _ _ hxb]
          clear c0 c1 c2 c3 f0 f1 f2 hb2 hb2' hW1 hs1
          go_wp2_with fail
          refine (hih.out _ (by omega) _ (HK3.out _ ?_)).mono ?_
          · intro x hx
            rw [Below.heap_setCell _ _ _ _ hx, Below.heap_setCell _ _ _ _ hx]
          rintro x w4 ⟨rfl, hk4, hT4⟩
          have HM4 := Lib.hid (HR.out.1.mark hj' hjb hnd (by omega) (z := (p : Int) + 1 + 1) (by omega) HB2.out rfl hT4 (by rw [HJ.out]; exact hk4))
          clear d1 d2 d3 e1 e2 hk4 hT4
          go_wp2_with fail
          go_roundw
          case rel =>
            refine ⟨j + 1, p + 3 + 3 * nodesL kids[j].kids, es'.set j ⟨markE p es'[j].e, es'[j].a, es'[j].c⟩, by omega, by go_num, rfl, hbk.out, by omega, ?_, ?_, HM4.out.1, HR.out.2.trans HM4.out.2 (fun _ h => h)⟩
            · have h1 := Hp.out; have h2 := HNT.out; have h4 := HNE.out; unfold Hid; omega
            · unfold Hid
              rw [List.map_set, HM.out, HJ.out, Hp.out, markI_set k kids j hjk]
          case measure => simp [intOf]; omega
        · obtain rfl : j = es.length := by omega
          go_wp2_with fail
          go_ret
          have hjk : es.length = kids.length := by omega
          have hm := HM.out
          have hpp := Hp.out
          rw [hjk, List.take_length] at hpp
          rw [hjk, markI_all] at hm
          subst hpp
          refine ⟨rfl, ⟨HH.out.1, by rw [markL_length]; exact HH.out.2, (fun h => by cases h), .inr ⟨b, es', bss, rfl, hm.symm, HR.out.1.len, by omega, rfl, HR.out.1.own, HR.out.1.kid⟩⟩, HR.out.2⟩

end Go.Proofs.YtjjdcdnaonfnmaaGreat
