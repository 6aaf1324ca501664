/- Lists of structures in memory, told once for all: how cells read, what keeps them, how rows of them are copied. -/
/- What the values of an expression are, by the model's rules: pure. -/
/- spec.l05Fit: whether two kids fit. -/
/- The laws' own helpers over expressions: the size that is left. -/
/- The helpers over texts, expressions and types in the one form that schemas take; blocks that are written step by step. -/
/- Schemas in memory: tables, columns, rules, indexes, views, sequences, enumerations, plans. Written by tools/gen_plan.py. -/
/- The place of the first thing of a name. Written by tools/gen_plan.py. -/
/- spec.l05Col over columns in memory. Cut out of colAt.lean. -/
import Derived.Test.YtpdcmmhhgnackaaDoorMMem
import Derived.Test.YtpdcmmhhgnackaaDoorMStrs
import Derived.Test.YtpdcmmhhgnackaaDoorMDrawOdd
import Derived.Laws.StructEq
import Derived.Deep.RegionHeld3
import Derived.Deep.DrawnRows
import Derived.Test.YtpdcmmhhgnackaaDoorMDrawPick
namespace Go.Proofs.YtpdcmmhhgnackaaDoor
open Go.RowKit

/-- How something reads: R lo w vs x says that the cells vs read as x in w, with every block that they reach from lo on. -/
abbrev Rd (X : Type) := Nat → World → List Value → X → Prop

/-- Every block from lo on that w has reads in w' as in w. -/
def Kept (lo : Nat) (w w' : World) : Prop := w.heap.size ≤ w'.heap.size ∧ ∀ b, lo ≤ b → b < w.heap.size → ∀ o, w'.cell? ⟨b, o, none⟩ = w.cell? ⟨b, o, none⟩

theorem Kept.refl (lo : Nat) (w : World) : Kept lo w w := ⟨Nat.le_refl _, fun _ _ _ _ => rfl⟩
theorem Kept.trans {lo : Nat} {w w1 w2 : World} (h : Kept lo w w1) (h' : Kept lo w1 w2) : Kept lo w w2 :=
  ⟨Nat.le_trans h.1 h'.1, fun b hl hb o => (h'.2 b hl (Nat.lt_of_lt_of_le hb h.1) o).trans (h.2 b hl hb o)⟩
theorem Kept.below {lo : Nat} {w w' : World} (hb : Below w.heap.size w w') : Kept lo w w' :=
  ⟨hb.size, fun b _ hlt o => hb.cell (p := ⟨b, o, none⟩) hlt⟩
theorem Kept.set {lo : Nat} {w w' : World} (h : Kept lo w w') {p : Addr} (hp : p.block < lo) (v : Value) : Kept lo w (w'.setCell p v) :=
  ⟨by simpa [World.setCell] using h.1, fun b hl hb o => (World.cell?_setCell_other _ _ _ _ (by intro e; subst e; simp at hp; omega)).trans (h.2 b hl hb o)⟩
theorem Kept.up {lo lo' : Nat} {w w' : World} (h : Kept lo w w') (hl : lo ≤ lo') : Kept lo' w w' := ⟨h.1, fun b h1 h2 o => h.2 b (Nat.le_trans hl h1) h2 o⟩

structure Good {X : Type} (R : Rd X) : Prop where
  kept : ∀ {lo : Nat} {w w' : World} {vs : List Value} {x : X}, R lo w vs x → Kept lo w w' → R lo w' vs x
  lower : ∀ {lo lo' : Nat} {w : World} {vs : List Value} {x : X}, R lo w vs x → lo' ≤ lo → R lo' w vs x

/-- The slice (a, length of xs, c) holds the things xs, each of K cells. -/
def Sl {X : Type} (K : Nat) (R : Rd X) (lo : Nat) (w : World) (a : Option Addr) (c : Nat) (xs : List X) : Prop :=
  xs.length ≤ c ∧ c ≤ maxLen ∧ (a = none → c = 0) ∧
  (0 < xs.length → ∃ b off, a = some ⟨b, off, none⟩ ∧ lo ≤ b ∧ b < w.heap.size ∧ ∀ (i : Nat) (h : i < xs.length), ∃ vs : List Value, (∀ (j : Nat) (hj : j < vs.length), w.cell? ⟨b, off + i * K + j, none⟩ = some vs[j]) ∧ R lo w vs xs[i])

theorem Sl.len {X : Type} {K : Nat} {R : Rd X} {lo : Nat} {w : World} {a : Option Addr} {c : Nat} {xs : List X} (h : Sl K R lo w a c xs) : xs.length ≤ 9223372036854775807 := by
  have h1 := h.1
  have h2 := h.2.1
  unfold maxLen at h2
  omega

theorem Sl.spot {X : Type} {K : Nat} {R : Rd X} {lo : Nat} {w : World} {a : Option Addr} {c : Nat} {xs : List X} (h : Sl K R lo w a c xs) {i : Nat} (hi : i < xs.length) :
    ∃ b off vs, a = some ⟨b, off, none⟩ ∧ b < w.heap.size ∧ (∀ (j : Nat) (hj : j < vs.length), w.cell? ⟨b, off + i * K + j, none⟩ = some vs[j]) ∧ R lo w vs xs[i] := by
  obtain ⟨b, off, ha, _, hb, hc⟩ := h.2.2.2 (by omega)
  obtain ⟨vs, h1, h2⟩ := hc i hi
  exact ⟨b, off, vs, ha, hb, h1, h2⟩

theorem Sl.kept {X : Type} {K : Nat} {R : Rd X} (G : Good R) {lo : Nat} {w w' : World} {a : Option Addr} {c : Nat} {xs : List X} (h : Sl K R lo w a c xs) (hk : Kept lo w w') : Sl K R lo w' a c xs := by
  obtain ⟨h1, h2, h3, h4⟩ := h
  refine ⟨h1, h2, h3, fun hp => ?_⟩
  obtain ⟨b, off, ha, hl, hb, hc⟩ := h4 hp
  refine ⟨b, off, ha, hl, Nat.lt_of_lt_of_le hb hk.1, fun i hi => ?_⟩
  obtain ⟨vs, h5, h6⟩ := hc i hi
  exact ⟨vs, fun j hj => (hk.2 b hl hb _).trans (h5 j hj), G.kept h6 hk⟩

theorem Sl.lower {X : Type} {K : Nat} {R : Rd X} (G : Good R) {lo lo' : Nat} {w : World} {a : Option Addr} {c : Nat} {xs : List X} (h : Sl K R lo w a c xs) (hl : lo' ≤ lo) : Sl K R lo' w a c xs := by
  obtain ⟨h1, h2, h3, h4⟩ := h
  refine ⟨h1, h2, h3, fun hp => ?_⟩
  obtain ⟨b, off, ha, hlb, hb, hc⟩ := h4 hp
  refine ⟨b, off, ha, Nat.le_trans hl hlb, hb, fun i hi => ?_⟩
  obtain ⟨vs, h5, h6⟩ := hc i hi
  exact ⟨vs, h5, G.lower h6 hl⟩

theorem Sl.nil {X : Type} (K : Nat) (R : Rd X) (lo : Nat) (w : World) : Sl K R lo w none 0 ([] : List X) :=
  ⟨Nat.le_refl _, by unfold maxLen; omega, fun _ => rfl, fun h => absurd h (by simp)⟩

/-- Texts in a slice, in a block from lo on. -/
def Ss (lo : Nat) (w : World) (a : Option Addr) (c : Nat) (xs : List ByteArray) : Prop :=
  Strs w a c xs ∧ (0 < xs.length → ∃ b off, a = some ⟨b, off, none⟩ ∧ lo ≤ b)

theorem Ss.kept {lo : Nat} {w w' : World} {a : Option Addr} {c : Nat} {xs : List ByteArray} (h : Ss lo w a c xs) (hk : Kept lo w w') : Ss lo w' a c xs := by
  obtain ⟨⟨h1, h2, h3, h3', h4⟩, h5⟩ := h
  refine ⟨⟨h1, h2, h3, h3', fun hp => ?_⟩, h5⟩
  obtain ⟨b, off, ha, hlt, hc⟩ := h4 hp
  obtain ⟨b', off', ha', hl⟩ := h5 hp
  rw [ha] at ha'
  cases ha'
  exact ⟨b, off, ha, Nat.lt_of_lt_of_le hlt hk.1, fun i hi => (hk.2 b hl hlt _).trans (hc i hi)⟩

theorem Ss.lower {lo lo' : Nat} {w : World} {a : Option Addr} {c : Nat} {xs : List ByteArray} (h : Ss lo w a c xs) (hl : lo' ≤ lo) : Ss lo' w a c xs :=
  ⟨h.1, fun hp => by obtain ⟨b, off, ha, hb⟩ := h.2 hp; exact ⟨b, off, ha, Nat.le_trans hl hb⟩⟩

theorem Own.ss {w : World} {B : Nat} {a : Option Addr} {c : Nat} {xs : List ByteArray} (h : Own w B a c xs) (hs : ∀ s ∈ xs, s.size ≤ maxLen) : Ss B w a c xs := by
  refine ⟨h.strs hs, fun hp => ?_⟩
  rcases h.form with ⟨_, _, rfl⟩ | ⟨g, ha, hb, _⟩
  · simp at hp
  · exact ⟨g, 0, ha, hb⟩

theorem Strs.ss0 {w : World} {a : Option Addr} {c : Nat} {xs : List ByteArray} (h : Strs w a c xs) : Ss 0 w a c xs :=
  ⟨h, fun hp => by obtain ⟨b, off, ha, _⟩ := h.2.2.2.2 hp; exact ⟨b, off, ha, Nat.zero_le _⟩⟩

/-- Expressions in a slice, in blocks from lo on, however deep. -/
def Ks (lo : Nat) (w : World) (a : Option Addr) (c : Nat) (kids : List Ex) : Prop := ∃ d, KidsB lo w (d + 1) a c kids

theorem Ks.kept {lo : Nat} {w w' : World} {a : Option Addr} {c : Nat} {kids : List Ex} (h : Ks lo w a c kids) (hk : Kept lo w w') : Ks lo w' a c kids := by
  obtain ⟨d, h⟩ := h
  exact ⟨d, h.agree hk.1 hk.2⟩

theorem Ks.lower {lo lo' : Nat} {w : World} {a : Option Addr} {c : Nat} {kids : List Ex} (h : Ks lo w a c kids) (hl : lo' ≤ lo) : Ks lo' w a c kids := by
  obtain ⟨d, h⟩ := h
  exact ⟨d, h.lower hl⟩

theorem Ks.len {lo : Nat} {w : World} {a : Option Addr} {c : Nat} {kids : List Ex} (h : Ks lo w a c kids) : kids.length ≤ 9223372036854775807 := by
  obtain ⟨d, h⟩ := h
  exact h.at.len

theorem KidsAt.ks {w : World} {d : Nat} {a : Option Addr} {c : Nat} {kids : List Ex} (h : KidsAt w d a c kids) : Ks 0 w a c kids := ⟨d, (h.mono (Nat.le_succ d)).b0⟩

/-- What the things of a list weigh together. -/
def wtS {X : Type} (f : X → Nat) (xs : List X) : Nat := (xs.map f).sum

theorem wtS_take {X : Type} (f : X → Nat) (xs : List X) (k : Nat) (h : k < xs.length) : wtS f (xs.take (k + 1)) = wtS f (xs.take k) + f xs[k] := by
  unfold wtS
  rw [List.take_succ_eq_append_getElem h, List.map_append, List.sum_append]
  simp only [List.map_cons, List.map_nil, List.sum_cons, List.sum_nil, Nat.add_zero]

theorem wtS_le {X : Type} (f : X → Nat) (xs : List X) (k : Nat) : wtS f (xs.take k) ≤ wtS f xs := by
  unfold wtS
  conv => rhs; rw [← List.take_append_drop k xs, List.map_append, List.sum_append]
  omega

theorem wtS_get {X : Type} (f : X → Nat) {xs : List X} {k : Nat} (h : k < xs.length) : f xs[k] ≤ wtS f xs := by
  have h1 := wtS_take f xs k h
  have h2 := wtS_le f xs (k + 1)
  omega

/-- The cells of a block, all of them free to be written. -/
def Blk (w : World) (b : Nat) (vs : List Value) : Prop := b < w.heap.size ∧ ∀ (j : Nat) (h : j < vs.length), w.cell? ⟨b, j, none⟩ = some vs[j] ∧ w.frozen? ⟨b, j, none⟩ = false

theorem Blk.below {w w' : World} {b : Nat} {vs : List Value} (h : Blk w b vs) (hb : Below w.heap.size w w') : Blk w' b vs :=
  ⟨Nat.lt_of_lt_of_le h.1 hb.size, fun j hj => ⟨(hb.cell (p := ⟨b, j, none⟩) h.1).trans (h.2 j hj).1, (hb.frozen (p := ⟨b, j, none⟩) h.1).trans (h.2 j hj).2⟩⟩

/-- The cells o, o + 1, .. of a block are written one after the other. -/
def stores (w : World) (b : Nat) : Nat → List Value → World
  | _, [] => w
  | o, v :: r => stores (w.setCell ⟨b, o, none⟩ v) b (o + 1) r

def setAll (l : List Value) : Nat → List Value → List Value
  | _, [] => l
  | o, v :: r => setAll (l.set o v) (o + 1) r

theorem setAll_mid : ∀ (vs p r q : List Value), vs.length = r.length → setAll (p ++ (r ++ q)) p.length vs = p ++ (vs ++ q)
  | [], p, r, q, h => by
    have : r = [] := List.eq_nil_of_length_eq_zero h.symm
    subst this
    rfl
  | v :: vt, p, [], q, h => by simp at h
  | v :: vt, p, y :: rt, q, h => by
    have e : (p ++ (y :: rt ++ q)).set p.length v = (p ++ [v]) ++ (rt ++ q) := by
      rw [List.set_append_right _ _ (Nat.le_refl _), Nat.sub_self, List.cons_append, List.set_cons_zero, List.append_assoc]
      rfl
    rw [setAll, e, show p.length + 1 = (p ++ [v]).length by simp, setAll_mid vt (p ++ [v]) rt q (by simpa using h), List.append_assoc]
    rfl

theorem stores_own {B : Nat} {T : TypeId} {K n b c : Nat} : ∀ (vs : List Value) {w : World} {cs : List Value} (o : Nat), w.ownsRow B T K (.slice (some ⟨b, 0, none⟩) n c) n cs →
    (stores w b o vs).ownsRow B T K (.slice (some ⟨b, 0, none⟩) n c) n (setAll cs o vs)
  | [], _, _, _, h => h
  | v :: r, _, _, o, h => stores_own r (o + 1) (h.stored o v).1

theorem stores_kept {lo b : Nat} (hb : b < lo) : ∀ (vs : List Value) {w w' : World} (o : Nat), Kept lo w w' → Kept lo w (stores w' b o vs)
  | [], _, _, _, h => h
  | v :: r, _, _, o, h => stores_kept hb r (o + 1) (h.set (p := ⟨b, o, none⟩) hb v)

theorem stores_below {B b : Nat} (hb : B ≤ b) : ∀ (vs : List Value) {w w' : World} (o : Nat), Below B w w' → Below B w (stores w' b o vs)
  | [], _, _, _, h => h
  | v :: r, _, _, o, h => stores_below hb r (o + 1) (h.setCell (p := ⟨b, o, none⟩) hb v)

theorem stores_size (b : Nat) : ∀ (vs : List Value) (w : World) (o : Nat), (stores w b o vs).heap.size = w.heap.size
  | [], _, _ => rfl
  | v :: r, w, o => by rw [stores, stores_size b r]; simp [World.setCell]

/-- The rows put so far, then empty ones. -/
def rfill (rows : List (List Value)) (z : List Value) (n : Nat) : List Value := (rows ++ List.replicate (n - rows.length) z).flatten

theorem flat_len {K : Nat} : ∀ {rows : List (List Value)}, (∀ r ∈ rows, r.length = K) → rows.flatten.length = rows.length * K
  | [], _ => by simp
  | r :: rs, h => by
    rw [List.flatten_cons, List.length_append, flat_len fun x hx => h x (List.mem_cons_of_mem _ hx), h r (List.mem_cons_self ..), List.length_cons, Nat.add_mul]
    omega

theorem flat_at {K : Nat} : ∀ {rows : List (List Value)}, (∀ r ∈ rows, r.length = K) → ∀ (i : Nat) (h : i < rows.length) (j : Nat), j < K → rows.flatten[i * K + j]? = rows[i][j]?
  | [], _, i, h, _, _ => by simp at h
  | r :: rs, hr, 0, _, j, hj => by
    rw [List.flatten_cons, Nat.zero_mul, Nat.zero_add, List.getElem?_append_left (by rw [hr r (List.mem_cons_self ..)]; exact hj)]
    rfl
  | r :: rs, hr, i + 1, h, j, hj => by
    have hl := hr r (List.mem_cons_self ..)
    rw [List.flatten_cons, List.getElem?_append_right (by rw [hl, Nat.add_mul]; omega), hl, show (i + 1) * K + j - K = i * K + j by rw [Nat.add_mul]; omega, flat_at (fun x hx => hr x (List.mem_cons_of_mem _ hx)) i (by simpa using h) j hj]
    rfl

theorem rfill_set {K : Nat} {rows : List (List Value)} {z vs : List Value} {n : Nat} (hr : ∀ r ∈ rows, r.length = K) (hz : z.length = K) (hv : vs.length = K) (h : rows.length < n) :
    setAll (rfill rows z n) (rows.length * K) vs = rfill (rows ++ [vs]) z n := by
  unfold rfill
  rw [show n - rows.length = (n - (rows ++ [vs]).length) + 1 by simp; omega, List.replicate_succ, List.flatten_append, List.flatten_cons, ← flat_len hr, setAll_mid vs rows.flatten z _ (by rw [hv, hz])]
  simp

theorem rfill_at {K : Nat} {rows : List (List Value)} {z : List Value} {n : Nat} (hr : ∀ r ∈ rows, r.length = K) (h : rows.length < n) (j : Nat) (hj : j < z.length) :
    (rfill rows z n)[rows.length * K + j]? = some z[j] := by
  unfold rfill
  rw [show n - rows.length = (n - rows.length - 1) + 1 by omega, List.replicate_succ, List.flatten_append, List.flatten_cons, List.getElem?_append_right (by rw [flat_len hr]; omega), flat_len hr, Nat.add_sub_cancel_left, List.getElem?_append_left hj, List.getElem?_eq_getElem hj]

theorem rfill_none (z : List Value) (n : Nat) (hz : 0 < z.length) : rfill [] z n = (madeCells z.toArray (n * z.length)).toList := by
  unfold rfill
  rw [List.nil_append, List.length_nil, Nat.sub_zero]
  have hr : ∀ r ∈ List.replicate n z, r.length = z.length := fun r h => by rw [List.eq_of_mem_replicate h]
  apply List.ext_getElem?
  intro j
  by_cases hj : j < n * z.length
  · have hq : j / z.length < n := Nat.div_lt_of_lt_mul (by rw [Nat.mul_comm]; exact hj)
    have hm : j % z.length < z.length := Nat.mod_lt _ hz
    have hdm : j / z.length * z.length + j % z.length = j := by rw [Nat.mul_comm]; exact Nat.div_add_mod _ _
    have h1 := flat_at hr (j / z.length) (by simpa using hq) (j % z.length) hm
    rw [hdm] at h1
    rw [h1, List.getElem_replicate]
    simp [madeCells, hj]
    rw [List.getElem?_eq_getElem hm]
    rfl
  · rw [List.getElem?_eq_none (by rw [flat_len hr]; simpa using hj), List.getElem?_eq_none (by simp [madeCells]; omega)]

/-- What has been copied of a row of things. -/
def DoneR {X : Type} (T : TypeId) (K : Nat) (R : Rd X) (z : List Value) (w : World) (xs : List X) (k : Nat) (wr : World) : Prop :=
  k ≤ xs.length ∧ (∃ rows : List (List Value), rows.length = k ∧ (∀ r ∈ rows, r.length = K) ∧ (∀ (j : Nat) (h : j < rows.length) (h' : j < xs.length), R (w.heap.size + 1) wr rows[j] xs[j]) ∧
    wr.ownsRow w.heap.size T K (.slice (some ⟨w.heap.size, 0, none⟩) xs.length xs.length) xs.length (rfill rows z xs.length)) ∧ w.heap.size < wr.heap.size ∧ Below w.heap.size w wr

theorem ownsRow_size {w : World} {B : Nat} {T : TypeId} {K n g l c : Nat} {cs : List Value} (h : w.ownsRow B T K (.slice (some ⟨g, 0, none⟩) l c) n cs) : g < w.heap.size := by
  rcases h.2 with ⟨h, _⟩ | ⟨g', cap, cur, hv, _, hgg, _⟩
  · cases h
  · simp only [Value.slice.injEq, Option.some.injEq, Addr.mk.injEq] at hv
    rcases Nat.lt_or_ge g w.heap.size with h | h
    · exact h
    · rw [← hv.1.1, Array.getElem?_eq_none h] at hgg; cases hgg

theorem DoneR.new {X : Type} {T : TypeId} {R : Rd X} {z : List Value} {w w1 : World} {xs : List X} (hz : 0 < z.length)
    (hown : w1.ownsRow w.heap.size T z.length (.slice (some ⟨w.heap.size, 0, none⟩) xs.length xs.length) xs.length (madeCells z.toArray (xs.length * z.length)).toList) (hg : w.grownBy w1 none) : DoneR T z.length R z w xs 0 w1 := by
  refine ⟨Nat.zero_le _, ⟨[], rfl, fun r h => by simp at h, fun j h => by simp at h, ?_⟩, ownsRow_size hown, (Below.refl _ _).grown hg (Nat.le_refl _) (fun k hk => by cases hk)⟩
  rw [rfill_none z _ hz]
  exact hown

theorem ownsRow_below {w w2 : World} {B : Nat} {T : TypeId} {K n g c : Nat} {cs : List Value} (h : w.ownsRow B T K (.slice (some ⟨g, 0, none⟩) n c) n cs) (hb2 : Below w.heap.size w w2) : w2.ownsRow B T K (.slice (some ⟨g, 0, none⟩) n c) n cs :=
  World.ownsRow.kept (row := none) h ⟨hb2.os, hb2.tape, hb2.output, hb2.size, fun k hk _ => hb2.block k hk⟩ (.inr (fun e => by cases e))

theorem DoneR.cells {X : Type} {T : TypeId} {K : Nat} {R : Rd X} {z : List Value} {w wr w2 : World} {xs : List X} {k : Nat} (h : DoneR T K R z w xs k wr) (hz : z.length = K) (hlt : k < xs.length) (hb2 : Below wr.heap.size wr w2) :
    (∀ (j : Nat) (hj : j < z.length), w2.cell? ⟨w.heap.size, k * K + j, none⟩ = some z[j]) ∧ ∀ o, w2.frozen? ⟨w.heap.size, o, none⟩ = false := by
  obtain ⟨_, ⟨rows, rfl, hr, _, hown⟩, _, _⟩ := h
  have hown2 := ownsRow_below hown hb2
  refine ⟨fun j hj => ?_, fun o => hown2.frozenAt o⟩
  have hlt' : rows.length * K + j < xs.length * K := by
    have : (rows.length + 1) * K ≤ xs.length * K := Nat.mul_le_mul_right K hlt
    rw [Nat.add_mul] at this
    omega
  exact (hown2.cellAt _ hlt').trans (rfill_at hr hlt j hj)

theorem DoneR.step {X : Type} {T : TypeId} {K : Nat} {R : Rd X} (G : Good R) {z : List Value} {w wr w2 w3 : World} {xs : List X} {k : Nat} (h : DoneR T K R z w xs k wr) (hz : z.length = K) (hlt : k < xs.length) {vs : List Value}
    (hv : vs.length = K) (hR : R wr.heap.size w2 vs xs[k]) (hb2 : Below wr.heap.size wr w2) (h3 : w3 = stores w2 w.heap.size (k * K) vs) : DoneR T K R z w xs (k + 1) w3 := by
  subst h3
  obtain ⟨hle, ⟨rows, rfl, hr, hd, hown⟩, hlw, hbw⟩ := h
  have hown2 := ownsRow_below hown hb2
  have hst := stores_own vs (rows.length * K) hown2
  rw [rfill_set hr hz hv hlt] at hst
  have hkk : Kept (w.heap.size + 1) w2 (stores w2 w.heap.size (rows.length * K) vs) := stores_kept (Nat.lt_succ_self _) vs _ (Kept.refl _ _)
  refine ⟨hlt, ⟨rows ++ [vs], by simp, ?_, fun j hj hj' => ?_, hst⟩, by rw [stores_size]; exact Nat.lt_of_lt_of_le hlw hb2.size, stores_below (Nat.le_refl _) vs _ (hbw.trans (hb2.mono hbw.size))⟩
  · intro r hm
    rcases List.mem_append.1 hm with h | h
    · exact hr r h
    · rw [List.mem_singleton.1 h, hv]
  · by_cases hjl : j < rows.length
    · rw [List.getElem_append_left hjl]
      exact G.kept (G.kept (hd j hjl hj') (Kept.below hb2)) hkk
    · have hje : j = rows.length := by simp at hj; omega
      subst hje
      rw [List.getElem_append_right (Nat.le_refl _)]
      simp only [Nat.sub_self, List.getElem_cons_zero]
      exact G.kept (G.lower hR hlw) hkk

theorem DoneR.end {X : Type} {T : TypeId} {K : Nat} {R : Rd X} (G : Good R) {z : List Value} {w wr : World} {xs : List X} (h : DoneR T K R z w xs xs.length wr) (hm : xs.length ≤ maxLen) :
    Sl K R w.heap.size wr (some ⟨w.heap.size, 0, none⟩) xs.length xs := by
  obtain ⟨_, ⟨rows, hl, hr, hd, hown⟩, hlt, hb⟩ := h
  refine ⟨Nat.le_refl _, hm, (fun h => by cases h), fun hp => ⟨w.heap.size, 0, rfl, Nat.le_refl _, hlt, fun i hi => ⟨rows[i]'(by omega), fun j hj => ?_, G.lower (hd i (by omega) hi) (by omega)⟩⟩⟩
  have hK : rows[i].length = K := hr _ (List.getElem_mem (by omega))
  have hlt' : i * K + j < xs.length * K := by
    have : (i + 1) * K ≤ xs.length * K := Nat.mul_le_mul_right K hi
    rw [Nat.add_mul] at this
    omega
  have := (World.ownsRow.cellAt (w := wr) hown (i * K + j) hlt')
  rw [Nat.zero_add, this, rfill, ← hl, Nat.sub_self, List.replicate_zero, List.append_nil, flat_at hr i (by omega) j (by omega), List.getElem?_eq_getElem hj]

end Go.Proofs.YtpdcmmhhgnackaaDoor

namespace Go.Proofs.YtpdcmmhhgnackaaDoor
open Go.RowKit

structure So where
  kind : Int
  name : ByteArray

def So.v (s : So) : Value := .agg #[.int .i64 s.kind, .string s.name]
def soK (k : Int) : So := ⟨k, ByteArray.empty⟩
def soEq (a b : So) : Bool := a.kind == b.kind && a.name.toList == b.name.toList

def typS (t : Ty) : So := if (t.kind == 0) = true then soK 0 else if (t.kind == 2) = true then soK 2 else if (t.kind == 4) = true then ⟨3, t.name⟩ else soK 1

/-- Whether two kids fit. -/
def fitS (ls : List Lb) (x y : Ex) (a b : So) : Bool :=
  if soEq a b = true then true else if (a.kind == 4) = true then true else if (b.kind == 4) = true then true
  else if (a.kind == 3) = true ∧ (y.kind == 2) = true then labB ls a.name y.text
  else if (b.kind == 3) = true ∧ (x.kind == 2) = true then labB ls b.name x.text else false

def allS (xs : List So) (k : Int) : Bool := xs.all fun x => x.kind == k || x.kind == 4

/-- One sort in two cells. -/
def RSo : Rd So := fun _ _ vs s => vs = [.int .i64 s.kind, .string s.name]

theorem goodSo : Good RSo := ⟨fun h _ => h, fun h _ => h⟩

theorem allS_hit (xs : List So) (k : Int) (i : Nat) (h : i < xs.length) (h1 : (xs[i].kind != k) = true) (h2 : (xs[i].kind != 4) = true) : allS xs k = false := by
  unfold allS
  rw [List.all_eq_false]
  exact ⟨xs[i], List.getElem_mem h, by simp at h1 h2 ⊢; exact ⟨h1, h2⟩⟩

theorem allS_all (xs : List So) (k : Int) (h : ∀ m (hm : m < xs.length), (xs[m].kind == k || xs[m].kind == 4) = true) : allS xs k = true := by
  unfold allS
  rw [List.all_eq_true]
  intro x hx
  obtain ⟨i, hi, rfl⟩ := List.mem_iff_getElem.1 hx
  exact h i hi

set_option maxHeartbeats 1000000 in
theorem specAllS (a : Option Addr) (c : Nat) (xs : List So) (kd : Int) (w : World) (hx : Sl 2 RSo 0 w a c xs) :
    Calls Tryd.prog 84 #[.slice a xs.length c, .int .i64 kd] w fun e w' => e = .returned (.bool (allS xs kd)) ∧ Below w.heap.size w w' := by
  have hl := hx.len
  go_enter Tryd.func84, Tryd.ntmps84
  go_wp2_with fail
  go_loopw [5] (fun i wr => ∃ k : Nat, k ≤ xs.length ∧ i = .int .i64 k ∧ Hid (∀ m (hm : m < xs.length), m < k → (xs[m].kind == kd || xs[m].kind == 4) = true) ∧ Hid (wr = w)) (fun i _ => xs.length - (intOf i).toNat)
  case atStart => exact ⟨0, Nat.zero_le _, rfl, fun m h hm => absurd hm (by omega), rfl⟩
  case round =>
    obtain ⟨k, hk, rfl, hall, hw⟩ := hrel
    have hxr : Sl 2 RSo 0 wr a c xs := by rw [hw.out]; exact hx
    by_cases hlt : k < xs.length
    · obtain ⟨b, off, vs, rfl, hbl, hcs, hR⟩ := hxr.spot hlt
      unfold RSo at hR
      subst hR
      have hc0 : wr.cell? ⟨b, off + k * 2, none⟩ = some (.int .i64 xs[k].kind) := hcs 0 (by simp)
      have hc1 : wr.cell? ⟨b, off + k * 2 + 1, none⟩ = some (.string xs[k].name) := hcs 1 (by simp)
      clear hcs hxr
      cases h1 : (xs[k].kind != kd) with
      | true =>
        cases h2 : (xs[k].kind != 4) with
        | true =>
          have HE := Lib.hid (allS_hit xs kd k hlt h1 h2)
          go_wp2_with fail
          go_ret
          exact ⟨by rw [HE.out]; rfl, by rw [hw.out]; exact Below.refl _ _⟩
        | false =>
          have HE : Hid ((xs[k].kind == kd || xs[k].kind == 4) = true) := by unfold Hid; simp at h2 ⊢; exact .inr h2
          go_wp2_with fail
          go_roundw
          case rel => exact ⟨k + 1, by omega, by go_num, fun m hm hk1 => by
            rcases Nat.lt_or_ge m k with h2 | h2
            · exact hall.out m hm h2
            · obtain rfl : m = k := by omega
              exact HE.out, hw⟩
          case measure => simp [intOf]; omega
      | false =>
        have HE : Hid ((xs[k].kind == kd || xs[k].kind == 4) = true) := by unfold Hid; simp at h1 ⊢; exact .inl h1
        go_wp2_with fail
        go_roundw
        case rel => exact ⟨k + 1, by omega, by go_num, fun m hm hk1 => by
          rcases Nat.lt_or_ge m k with h2 | h2
          · exact hall.out m hm h2
          · obtain rfl : m = k := by omega
            exact HE.out, hw⟩
        case measure => simp [intOf]; omega
    · have HE := Lib.hid (allS_all xs kd fun m hm => hall.out m hm (by omega))
      go_wp2_with fail
      go_ret
      exact ⟨by rw [HE.out]; rfl, by rw [hw.out]; exact Below.refl _ _⟩

set_option maxHeartbeats 1000000 in
theorem specTypeS (k l : Int) (s : ByteArray) (w : World) :
    Calls Tryd.prog 81 #[.agg #[.int .i64 k, .int .i64 l, .string s]] w fun e w' => e = .returned (typS ⟨k, l, s⟩).v ∧ Below w.heap.size w w' := by
  have hb : ∀ o1 o2, Below w.heap.size w ((w.alloc o1).alloc o2) := fun o1 o2 => ((Below.refl _ _).alloc (Nat.le_refl _) _).alloc (by simp) _
  unfold typS
  cases h0 : (k == 0) with
  | true =>
    go_enter Tryd.func81, Tryd.ntmps81
    go_wp2_with fail
    refine bodyPost_ret (v := .agg #[.int .i64 0, .string ByteArray.empty]) (by simp [results, Tryd.results81, go_sem]; rfl) rfl ⟨rfl, hb _ _⟩
  | false =>
    cases h1 : (k == 2) with
    | true =>
      go_enter Tryd.func81, Tryd.ntmps81
      go_wp2_with fail
      refine bodyPost_ret (v := .agg #[.int .i64 2, .string ByteArray.empty]) (by simp [results, Tryd.results81, go_sem]; rfl) rfl ⟨rfl, hb _ _⟩
    | false =>
      cases h2 : (k == 4) with
      | true =>
        go_enter Tryd.func81, Tryd.ntmps81
        go_wp2_with fail
        refine bodyPost_ret (v := .agg #[.int .i64 3, .string s]) (by simp [results, Tryd.results81, go_sem]) rfl ⟨rfl, hb _ _⟩
      | false =>
        go_enter Tryd.func81, Tryd.ntmps81
        go_wp2_with fail
        refine bodyPost_ret (v := .agg #[.int .i64 1, .string ByteArray.empty]) (by simp [results, Tryd.results81, go_sem]; rfl) rfl ⟨rfl, hb _ _⟩

end Go.Proofs.YtpdcmmhhgnackaaDoor

namespace Go.Proofs.YtpdcmmhhgnackaaDoor
open Go.RowKit

theorem eqlSo (k : Int) (s : ByteArray) (k' : Int) (s' : ByteArray) (w : World) :
    (binOp .eql 39 (.agg #[.int .i64 k, .string s]) (.agg #[.int .i64 k', .string s'])).run Tryd.prog w = .ok (.bool (soEq ⟨k, s⟩ ⟨k', s'⟩)) w := by
  have u3 := Tryd.underlying3
  have u9 := Tryd.underlying9
  have hS : Tryd.prog.underlying 39 = some (.struct (Tryd.prog.fieldsOf 39)) := by kernel_rfl
  have hp : Tryd.prog.stoodInHeld 39 = false := by kernel_rfl
  rw [run_eql_struct, show (10000 : Nat) = 9999 + 1 from rfl, run_equalIn_agg w 9999 39 _ _ hS hp]
  simp only [Program.fieldsOf, Tryd.underlying39]
  unfold soEq
  go_simp
  by_cases h1 : k = k' <;> by_cases h3 : s.toList = s'.toList <;> simp [h1, h3]

theorem guardSo (x y : Operand) (k : Int) (s : ByteArray) (k' : Int) (s' : ByteArray) (w : World) :
    (eqGuard .eql 39 x y (.agg #[.int .i64 k, .string s]) (.agg #[.int .i64 k', .string s'])).run Tryd.prog w = .ok () w :=
  run_eqGuard_agg w .eql 39 x y _ _ (by kernel_rfl)

theorem drewB {B : Nat} {a w : World} (h : Below B a w) : Below B a w.drew := ⟨h.os, h.tape, h.output, h.size, h.block⟩

set_option maxRecDepth 100000 in
set_option maxHeartbeats 4000000 in
theorem specFit (e x y : Ex) (ak : Option Addr) (ck d : Nat) (a b : So) (la : Option Addr) (lc : Nat) (ls : List Lb) (w : World) (hk : KidsAt w (d + 1) ak ck e.kids) (he : e.kids = [x, y]) (hL : Lbs w la lc ls) :
    Calls Tryd.prog 85 #[.agg #[.int .i64 e.kind, .string e.text, .int .i64 e.num, .slice ak e.kids.length ck], a.v, b.v, .slice la ls.length lc] w fun v w' => v = .returned (.bool (fitS ls x y a b)) ∧ Below w.heap.size w w' := by
  obtain ⟨k1, s1⟩ := a
  obtain ⟨k2, s2⟩ := b
  rw [he] at hk ⊢
  obtain ⟨kb, off, rfl, hbl, q0, q1, q2, _, xa, xc, q3, _⟩ := hk.spot (i := 0) (by simp)
  obtain ⟨kb', off', hab, _, r0, r1, r2, _, ya, yc, r3, _⟩ := hk.spot (i := 1) (by simp)
  cases hab
  simp only [List.getElem_cons_zero, List.getElem_cons_succ, Nat.zero_mul, Nat.one_mul, Nat.add_zero] at q0 q1 q2 q3 r0 r1 r2 r3
  have hq := fun w => eqlSo k1 s1 k2 s2 w
  have hG := fun x y w => guardSo x y k1 s1 k2 s2 w
  have hne : kb ≠ w.heap.size := by omega
  have hne1 : kb ≠ w.heap.size + 1 := by omega
  have hne2 : kb ≠ w.heap.size + 1 + 1 := by omega
  have HX := Lib.hid (fun w' hb => hL.below (w' := w') hb)
  obtain ⟨W1, hW⟩ : ∃ W1, W1 = (((w.alloc (.cells #[.int .i64 e.kind, .string e.text, .int .i64 e.num, .slice (some ⟨kb, off, none⟩) 2 ck] 26)).alloc (.cells #[.int .i64 k1, .string s1] 39)).alloc (.cells #[.int .i64 k2, .string s2] 39)) := ⟨_, rfl⟩
  have hB : Below w.heap.size w W1 := by rw [hW]; exact (((Below.refl _ _).alloc (Nat.le_refl _) _).alloc (by simp) _).alloc (by simp; omega) _
  have hc := fun o => hB.cell (p := ⟨kb, o, none⟩) hbl
  have p0 : W1.cell? ⟨w.heap.size, 3, none⟩ = some (.slice (some ⟨kb, off, none⟩) 2 ck) := by rw [hW]; simp [go_sem]
  have p1 : W1.cell? ⟨w.heap.size + 1, 0, none⟩ = some (.int .i64 k1) := by rw [hW]; simp [go_sem]
  have p2 : W1.cell? ⟨w.heap.size + 1, 1, none⟩ = some (.string s1) := by rw [hW]; simp [go_sem]
  have p3 : W1.cell? ⟨w.heap.size + 1 + 1, 0, none⟩ = some (.int .i64 k2) := by rw [hW]; simp [go_sem]
  have p4 : W1.cell? ⟨w.heap.size + 1 + 1, 1, none⟩ = some (.string s2) := by rw [hW]; simp [go_sem]
  have q0' : W1.cell? ⟨kb, off, none⟩ = some (.int .i64 x.kind) := (hc _).trans q0
  have q1' : W1.cell? ⟨kb, off + 1, none⟩ = some (.string x.text) := (hc _).trans q1
  have q2' : W1.cell? ⟨kb, off + 2, none⟩ = some (.int .i64 x.num) := (hc _).trans q2
  have q3' : W1.cell? ⟨kb, off + 3, none⟩ = some (.slice xa x.kids.length xc) := (hc _).trans q3
  have r0' : W1.cell? ⟨kb, off + 4, none⟩ = some (.int .i64 y.kind) := (hc _).trans r0
  have r1' : W1.cell? ⟨kb, off + 4 + 1, none⟩ = some (.string y.text) := (hc _).trans r1
  have r2' : W1.cell? ⟨kb, off + 4 + 2, none⟩ = some (.int .i64 y.num) := (hc _).trans r2
  have r3' : W1.cell? ⟨kb, off + 4 + 3, none⟩ = some (.slice ya y.kids.length yc) := (hc _).trans r3
  have m0 := World.new_ne W1 _ p0
  have m1 := World.new_ne W1 _ p1
  have m2 := World.new_ne W1 _ p3
  have m3 := World.new_ne W1 _ q0'
  simp only at m0 m1 m2 m3
  have HB3 : Hid (∀ o1 o2 n, Below w.heap.size w (((W1.alloc o1).alloc o2).drewN n)) := fun o1 o2 n => below_drewN ((hB.alloc hB.size _).alloc (by have := hB.size; simp; omega) _) n
  have HB2 : Hid (∀ o1 o2, Below w.heap.size w ((W1.alloc o1).alloc o2).drew) := fun o1 o2 => drewB ((hB.alloc hB.size _).alloc (by have := hB.size; simp; omega) _)
  clear hk hL hB hc q0 q1 q2 q3 r0 r1 r2 r3
  unfold So.v
  simp only [List.length_cons, List.length_nil]
  go_enter Tryd.func85, Tryd.ntmps85
  go_wp2_with fail
  rw [← hW]
  clear hW
  go_region_held3 (fun w' => w'.cell? ⟨w.heap.size, 3, none⟩ = some (.slice (some ⟨kb, off, none⟩) 2 ck) ∧ w'.cell? ⟨w.heap.size + 1, 0, none⟩ = some (.int .i64 k1) ∧ w'.cell? ⟨w.heap.size + 1, 1, none⟩ = some (.string s1) ∧ w'.cell? ⟨w.heap.size + 1 + 1, 0, none⟩ = some (.int .i64 k2) ∧ w'.cell? ⟨w.heap.size + 1 + 1, 1, none⟩ = some (.string s2) ∧ w'.cell? ⟨kb, off, none⟩ = some (.int .i64 x.kind) ∧ w'.cell? ⟨kb, off + 1, none⟩ = some (.string x.text) ∧ w'.cell? ⟨kb, off + 2, none⟩ = some (.int .i64 x.num) ∧ w'.cell? ⟨kb, off + 3, none⟩ = some (.slice xa x.kids.length xc) ∧ w'.cell? ⟨kb, off + 4, none⟩ = some (.int .i64 y.kind) ∧ w'.cell? ⟨kb, off + 4 + 1, none⟩ = some (.string y.text) ∧ w'.cell? ⟨kb, off + 4 + 2, none⟩ = some (.int .i64 y.num) ∧ w'.cell? ⟨kb, off + 4 + 3, none⟩ = some (.slice ya y.kids.length yc)) (go_keep) (fail)
  all_goals
    cases h1 : soEq ⟨k1, s1⟩ ⟨k2, s2⟩ with
    | true =>
      have HE : Hid (fitS ls x y ⟨k1, s1⟩ ⟨k2, s2⟩ = true) := by unfold Hid fitS; simp [h1]
      go_wp2_with fail
      go_ret
      exact ⟨by rw [HE.out]; rfl, HB2.out _ _⟩
    | false =>
      cases h2 : (k1 == 4) with
      | true =>
        have HE : Hid (fitS ls x y ⟨k1, s1⟩ ⟨k2, s2⟩ = true) := by unfold Hid fitS; simp [h1, h2]
        go_wp2_with fail
        go_ret
        exact ⟨by rw [HE.out]; rfl, HB2.out _ _⟩
      | false =>
        cases h3 : (k2 == 4) with
        | true =>
          have HE : Hid (fitS ls x y ⟨k1, s1⟩ ⟨k2, s2⟩ = true) := by unfold Hid fitS; simp [h1, h2, h3]
          go_wp2_with fail
          go_ret
          exact ⟨by rw [HE.out]; rfl, HB2.out _ _⟩
        | false =>
          cases h4 : (k1 == 3) with
          | true =>
            cases h5 : (y.kind == 2) with
            | true =>
              have HE : Hid (fitS ls x y ⟨k1, s1⟩ ⟨k2, s2⟩ = labB ls s1 y.text) := by unfold Hid fitS; simp [h1, h2, h3, h4, h5]
              go_wp2_with fail
              refine (specLabel la lc ls s1 y.text _ (HX.out _ (HB2.out _ _))).mono ?_
              rintro e w2 ⟨rfl, nn, rfl⟩
              go_wp2_with fail
              go_ret
              exact ⟨by rw [HE.out]; rfl, HB3.out _ _ _⟩
            | false =>
              cases h6 : (k2 == 3) with
              | true =>
                cases h7 : (x.kind == 2) with
                | true =>
                  have HE : Hid (fitS ls x y ⟨k1, s1⟩ ⟨k2, s2⟩ = labB ls s2 x.text) := by unfold Hid fitS; simp [h1, h2, h3, h4, h5, h6, h7]
                  go_wp2_with fail
                  refine (specLabel la lc ls s2 x.text _ (HX.out _ (HB2.out _ _))).mono ?_
                  rintro e w2 ⟨rfl, nn, rfl⟩
                  go_wp2_with fail
                  go_ret
                  exact ⟨by rw [HE.out]; rfl, HB3.out _ _ _⟩
                | false =>
                  have HE : Hid (fitS ls x y ⟨k1, s1⟩ ⟨k2, s2⟩ = false) := by unfold Hid fitS; simp [h1, h2, h3, h4, h5, h6, h7]
                  go_wp2_with fail
                  go_ret
                  exact ⟨by rw [HE.out]; rfl, HB2.out _ _⟩
              | false =>
                have HE : Hid (fitS ls x y ⟨k1, s1⟩ ⟨k2, s2⟩ = false) := by unfold Hid fitS; simp [h1, h2, h3, h4, h5, h6]
                go_wp2_with fail
                go_ret
                exact ⟨by rw [HE.out]; rfl, HB2.out _ _⟩
          | false =>
            cases h6 : (k2 == 3) with
            | true =>
              cases h7 : (x.kind == 2) with
              | true =>
                have HE : Hid (fitS ls x y ⟨k1, s1⟩ ⟨k2, s2⟩ = labB ls s2 x.text) := by unfold Hid fitS; simp [h1, h2, h3, h4, h6, h7]
                go_wp2_with fail
                refine (specLabel la lc ls s2 x.text _ (HX.out _ (HB2.out _ _))).mono ?_
                rintro e w2 ⟨rfl, nn, rfl⟩
                go_wp2_with fail
                go_ret
                exact ⟨by rw [HE.out]; rfl, HB3.out _ _ _⟩
              | false =>
                have HE : Hid (fitS ls x y ⟨k1, s1⟩ ⟨k2, s2⟩ = false) := by unfold Hid fitS; simp [h1, h2, h3, h4, h6, h7]
                go_wp2_with fail
                go_ret
                exact ⟨by rw [HE.out]; rfl, HB2.out _ _⟩
            | false =>
              have HE : Hid (fitS ls x y ⟨k1, s1⟩ ⟨k2, s2⟩ = false) := by unfold Hid fitS; simp [h1, h2, h3, h4, h6]
              go_wp2_with fail
              go_ret
              exact ⟨by rw [HE.out]; rfl, HB2.out _ _⟩

end Go.Proofs.YtpdcmmhhgnackaaDoor

namespace Go.Proofs.YtpdcmmhhgnackaaDoor
open Go.RowKit

def leftN (n : Nat) (left : Int) : Int := if left < n then -1 else left - n

theorem leftN_le {n : Nat} (h : ¬ leftN n 1048576 < 0) : n ≤ 1048576 := by
  unfold leftN at h
  split at h
  · omega
  · omega

def SzP (d : Nat) : Prop := ∀ (e : Ex) (a : Option Addr) (c : Nat) (left : Int) (w : World), e.fit → KidsAt w d a c e.kids → 0 ≤ left → left ≤ 1048576 →
  Calls Tryd.prog 88 #[.agg #[.int .i64 e.kind, .string e.text, .int .i64 e.num, .slice a e.kids.length c], .int .i64 left] w fun x w' => x = .returned (.int .i64 (leftN e.wt left)) ∧ Below w.heap.size w w'

set_option maxHeartbeats 1000000 in
theorem szKids (d : Nat) (ih : SzP d) (a : Option Addr) (c : Nat) (xs : List Ex) (left : Int) (w : World) (hx : KidsAt w (d + 1) a c xs) (h0 : 0 ≤ left) (h1 : left ≤ 1048576) :
    Calls Tryd.prog 50 #[.slice a xs.length c, .int .i64 left] w fun e w' => e = .returned (.int .i64 (leftN (xs.length + wtL xs) left)) ∧ Below w.heap.size w w' := by
  have hl := hx.len
  by_cases hs : left < xs.length
  · have H : Hid (leftN (xs.length + wtL xs) left = -1) := by unfold Hid leftN; rw [if_pos (by omega)]
    go_enter Tryd.func50, Tryd.ntmps50
    go_wp2
    go_ret
    exact ⟨by rw [H.out]; rfl, Below.refl _ _⟩
  · have hs' : (xs.length : Int) ≤ left := by omega
    go_enter Tryd.func50, Tryd.ntmps50
    go_wp2
    go_loopw [1, 5] (fun l i wr => ∃ k : Nat, k ≤ xs.length ∧ i = .int .i64 k ∧ wtL (xs.take k) ≤ left - xs.length ∧ l = .int .i64 (left - xs.length - wtL (xs.take k)) ∧ Below w.heap.size w wr) (fun _ i _ => xs.length - (intOf i).toNat)
    case atStart => exact ⟨0, Nat.zero_le _, rfl, by simp [wtL]; omega, by simp [wtL], Below.refl _ _⟩
    case round =>
      obtain ⟨k, hk, rfl, hsm, rfl, hb⟩ := hrel
      by_cases hlt : k < xs.length
      · obtain ⟨b, off, rfl, hbl, hc0, hc1, hc2, hfit, a', c', hc3, hkid⟩ := (hx.below hb).spot hlt
        have HT := Lib.hid (wtL_take xs k hlt)
        have HL := Lib.hid (wtL_mono xs (k + 1))
        have HK := Lib.hid hkid
        clear hkid hx
        go_wp2_with fail
        refine (ih xs[k] a' c' (left - xs.length - wtL (xs.take k)) _ hfit HK.out (by omega) (by omega)).mono ?_
        by_cases hle : left - xs.length - wtL (xs.take k) < xs[k].wt
        · rw [show leftN xs[k].wt (left - xs.length - wtL (xs.take k)) = -1 from if_pos hle]
          rintro e w2 ⟨rfl, hb2⟩
          have H : Hid (leftN (xs.length + wtL xs) left = -1) := by unfold Hid leftN; rw [if_pos (by have := HT.out; have := HL.out; omega)]
          go_wp2_with fail
          go_ret
          exact ⟨by rw [H.out]; rfl, hb.trans (hb2.mono hb.size)⟩
        · rw [show leftN xs[k].wt (left - xs.length - wtL (xs.take k)) = left - xs.length - wtL (xs.take k) - xs[k].wt from if_neg hle]
          rintro e w2 ⟨rfl, hb2⟩
          go_wp2_with fail
          go_roundw
          case rel => exact ⟨k + 1, by omega, by go_num, by have := HT.out; omega, by rw [HT.out]; go_num, hb.trans (hb2.mono hb.size)⟩
          case measure => simp [intOf]; omega
      · obtain rfl : k = xs.length := by omega
        have H : Hid (leftN (xs.length + wtL xs) left = left - xs.length - wtL xs) := by
          unfold Hid leftN; rw [List.take_length] at hsm; rw [if_neg (by omega)]; omega
        go_wp2_with fail
        go_ret
        exact ⟨by rw [H.out, List.take_length]; rfl, hb⟩

set_option maxHeartbeats 1000000 in
theorem szEx : ∀ d, SzP d
  | 0 => fun _ _ _ _ _ _ h => h.elim
  | d + 1 => by
    intro e a c left w hfit hk h0 h1
    have hks := szKids d (szEx d) a c e.kids
    have ht : e.text.size ≤ 9223372036854775807 := by have := hfit.1; unfold maxLen at this; omega
    have hwt := Lib.hid (Ex.wt_eq e)
    have hn := hk.len
    have HK := Lib.hid (fun o => hk.below ((Below.refl w.heap.size w).alloc (Nat.le_refl _) o))
    clear hk
    by_cases hs : left - e.text.size < 0
    · have H : Hid (leftN e.wt left = -1) := by unfold Hid leftN; rw [if_pos (by have := hwt.out; omega)]
      go_enter Tryd.func88, Tryd.ntmps88
      go_wp2_with fail
      go_ret
      exact ⟨by rw [H.out]; rfl, (Below.refl _ _).alloc (Nat.le_refl _) _⟩
    · have hd : decide (left - (e.text.size : Int) < 0) = false := by simpa using hs
      go_enter Tryd.func88, Tryd.ntmps88
      go_wp2_with fail
      refine (hks (left - e.text.size) _ (HK.out _) (by omega) (by omega)).mono ?_
      by_cases hle : left - e.text.size < (e.kids.length + wtL e.kids : Nat)
      · rw [show leftN (e.kids.length + wtL e.kids) (left - e.text.size) = -1 from if_pos hle]
        rintro x w2 ⟨rfl, hb2⟩
        have H : Hid (leftN e.wt left = -1) := by unfold Hid leftN; rw [if_pos (by have := hwt.out; omega)]
        go_wp2_with fail
        go_ret
        exact ⟨by rw [H.out]; rfl, ((Below.refl _ _).alloc (Nat.le_refl _) _).trans (hb2.mono (by simp))⟩
      · rw [show leftN (e.kids.length + wtL e.kids) (left - e.text.size) = left - e.text.size - (e.kids.length + wtL e.kids : Nat) from if_neg hle]
        rintro x w2 ⟨rfl, hb2⟩
        have H : Hid (leftN e.wt left = left - e.text.size - (e.kids.length + wtL e.kids : Nat)) := by unfold Hid leftN; rw [if_neg (by have := hwt.out; omega)]; have := hwt.out; omega
        have hd2 : decide (left - (e.text.size : Int) - ((e.kids.length + wtL e.kids : Nat) : Int) < 0) = false := by simp; omega
        go_wp2_with fail
        go_ret
        exact ⟨by rw [H.out]; rfl, ((Below.refl _ _).alloc (Nat.le_refl _) _).trans (hb2.mono (by simp))⟩

end Go.Proofs.YtpdcmmhhgnackaaDoor

namespace Go.Proofs.YtpdcmmhhgnackaaDoor
open Go.RowKit

theorem Below.call {n : Nat} {w W w' : World} (hb : Below W.heap.size W w') (h : Below n w W) (hn : n ≤ w.heap.size := by omega) : Below n w w' := h.trans (hb.mono (Nat.le_trans hn h.size))

theorem Blk.call {W w' : World} {b : Nat} {vs : List Value} (hb : Below W.heap.size W w') (h : Blk W b vs) : Blk w' b vs := h.below hb

theorem Kept.call {lo : Nat} {w W w' : World} (hb : Below W.heap.size W w') (h : Kept lo w W) : Kept lo w w' := h.trans (Kept.below hb)

theorem Blk.alloc {w : World} {b : Nat} {vs : List Value} (h : Blk w b vs) (o : Obj) : Blk (w.alloc o) b vs := h.below ((Below.refl _ _).alloc (Nat.le_refl _) _)

theorem blk_new (w : World) (T : TypeId) (vs : List Value) : Blk (w.alloc (.cells vs.toArray T)) w.heap.size vs := by
  refine ⟨by simp, fun j hj => ⟨?_, ?_⟩⟩
  · rw [cell_of_row _ _ _ _ _ _ (heap_alloc_new w _)]
    simp [hj]
  · simp [go_sem]

theorem blk_new' {w : World} {b : Nat} (hb : b = w.heap.size) (T : TypeId) (vs : List Value) : Blk (w.alloc (.cells vs.toArray T)) b vs := by
  subst hb
  exact blk_new w T vs

theorem Blk.set {w : World} {b : Nat} {vs : List Value} (h : Blk w b vs) (j : Nat) (v : Value) : Blk (w.setCell ⟨b, j, none⟩ v) b (vs.set j v) := by
  refine ⟨by simpa [World.setCell] using h.1, fun i hi => ?_⟩
  have hi' : i < vs.length := by simpa using hi
  refine ⟨?_, (World.frozen?_setCell ..).trans (h.2 i hi').2⟩
  by_cases e : i = j
  · subst e
    rw [World.cell?_setCell_same _ _ _ (h.2 i hi').1, List.getElem_set_self]
  · have ha : (⟨b, j, none⟩ : Addr) ≠ ⟨b, i, none⟩ := fun q => e (by cases q; rfl)
    rw [World.cell?_setCell_other _ _ _ _ ha, List.getElem_set_ne (by omega), (h.2 i hi').1]

theorem Blk.other {w : World} {b b' : Nat} {vs : List Value} (h : Blk w b vs) (hne : b ≠ b') (j : Nat) (v : Value) : Blk (w.setCell ⟨b', j, none⟩ v) b vs :=
  ⟨by simpa [World.setCell] using h.1, fun i hi => ⟨(World.cell?_setCell_other _ _ _ _ (fun q => hne (by cases q; rfl))).trans (h.2 i hi).1, (World.frozen?_setCell ..).trans (h.2 i hi).2⟩⟩

theorem Blk.belowB {B : Nat} {w w' : World} {b : Nat} {vs : List Value} (h : Blk w b vs) (hb : Below B w w') (hlt : b < B) : Blk w' b vs :=
  ⟨Nat.lt_of_lt_of_le h.1 hb.size, fun j hj => ⟨(hb.cell (p := ⟨b, j, none⟩) hlt).trans (h.2 j hj).1, (hb.frozen (p := ⟨b, j, none⟩) hlt).trans (h.2 j hj).2⟩⟩

theorem leftOf_eq (xs : List ByteArray) (left : Int) : leftOf xs left = leftN (xs.length + lets xs) left := by
  unfold leftOf leftN
  split
  · rw [if_pos (by omega)]
  · rw [if_neg (by omega)]; omega

theorem szSs (a : Option Addr) (c : Nat) (xs : List ByteArray) (left : Int) (w : World) (h : Ss 0 w a c xs) (h0 : 0 ≤ left) (h1 : left ≤ 1048576) :
    Calls Tryd.prog 46 #[.slice a xs.length c, .int .i64 left] w fun e w' => e = .returned (.int .i64 (leftN (xs.length + lets xs) left)) ∧ Below w.heap.size w w' := by
  refine (szStrs a c xs left w h.1 h0 h1).mono ?_
  rintro e w' ⟨rfl, rfl⟩
  exact ⟨by rw [leftOf_eq], Below.refl _ _⟩

theorem szKs (a : Option Addr) (c : Nat) (xs : List Ex) (left : Int) (w : World) (h : Ks 0 w a c xs) (h0 : 0 ≤ left) (h1 : left ≤ 1048576) :
    Calls Tryd.prog 50 #[.slice a xs.length c, .int .i64 left] w fun e w' => e = .returned (.int .i64 (leftN (xs.length + wtL xs) left)) ∧ Below w.heap.size w w' := by
  obtain ⟨d, h⟩ := h
  exact szKids d (szEx d) a c xs left w h.at h0 h1

theorem szTy0 (k l : Int) (s : ByteArray) (n : Int) (w : World) (hs : s.size ≤ maxLen) (h0 : 0 ≤ n) (h1 : n ≤ 1048576) :
    Calls Tryd.prog 47 #[.agg #[.int .i64 k, .int .i64 l, .string s], .int .i64 n] w fun e w' => e = .returned (.int .i64 (leftN s.size n)) ∧ Below w.heap.size w w' := by
  refine (szTy k l s n w hs h0 h1).mono ?_
  rintro e w' ⟨rfl, hb⟩
  refine ⟨?_, hb⟩
  unfold leftN
  split
  · rw [if_pos (by omega)]
  · rw [if_neg (by omega)]

theorem toSs (a : Option Addr) (c : Nat) (xs : List ByteArray) (w : World) (h : Ss 0 w a c xs) (hn : xs.length + lets xs ≤ 1048576) :
    Calls Tryd.prog 55 #[.slice a xs.length c] w fun e w' => ∃ a' c', e = .returned (.slice a' xs.length c') ∧ Ss w.heap.size w' a' c' xs ∧ Below w.heap.size w w' := by
  refine (toStrs a c xs w h.1 (by omega)).mono ?_
  rintro e w' ⟨a', c', rfl, ho, hb⟩
  exact ⟨a', c', rfl, ho.ss h.1.2.2.1, hb⟩

theorem toKs (a : Option Addr) (c : Nat) (xs : List Ex) (w : World) (h : Ks 0 w a c xs) (hn : xs.length + wtL xs ≤ 1048576) :
    Calls Tryd.prog 59 #[.slice a xs.length c] w fun e w' => ∃ a' c', e = .returned (.slice a' xs.length c') ∧ Ks w.heap.size w' a' c' xs ∧ Below w.heap.size w w' := by
  obtain ⟨d, h⟩ := h
  refine (toKids d (toEx d) a c xs w h.at hn).mono ?_
  rintro e w' ⟨a', c', rfl, ho, hb⟩
  exact ⟨a', c', rfl, ⟨d, ho⟩, hb⟩

theorem eqSs (a a' : Option Addr) (c c' : Nat) (xs : List ByteArray) (w : World) (h : Ss 0 w a c xs) (h' : Ss 0 w a' c' xs) :
    Calls Tryd.prog 62 #[.slice a xs.length c, .slice a' xs.length c'] w fun e w' => e = .returned (.bool true) ∧ Below w.heap.size w w' := by
  refine (eqStrs a a' c c' xs xs w h.1 h'.1 rfl).mono ?_
  rintro e w' ⟨rfl, n, rfl⟩
  exact ⟨rfl, below_drewN (Below.refl _ _) n⟩

theorem eqKs (a a' : Option Addr) (c c' : Nat) (xs : List Ex) (w : World) (h : Ks 0 w a c xs) (h' : Ks 0 w a' c' xs) :
    Calls Tryd.prog 66 #[.slice a xs.length c, .slice a' xs.length c'] w fun e w' => e = .returned (.bool true) ∧ Below w.heap.size w w' := by
  obtain ⟨d, h⟩ := h
  obtain ⟨d', h'⟩ := h'
  exact eqKids (max d d') (eqEx _) a a' c c' xs w (h.at.mono (by omega)) (h'.at.mono (by omega))

set_option maxHeartbeats 1000000 in
theorem eqTy0 (k l : Int) (s : ByteArray) (w : World) :
    Calls Tryd.prog 63 #[.agg #[.int .i64 k, .int .i64 l, .string s], .agg #[.int .i64 k, .int .i64 l, .string s]] w fun e w' => e = .returned (.bool true) ∧ Below w.heap.size w w' := by
  have e1 : (k != k) = false := by simp
  have e2 : (l != l) = false := by simp
  have e3 : (!(s.toList == s.toList)) = false := by simp
  go_enter Tryd.func63, Tryd.ntmps63
  go_wp2_with fail
  go_ret
  exact ⟨rfl, below2 _ _ _⟩

end Go.Proofs.YtpdcmmhhgnackaaDoor

namespace Go.Proofs.YtpdcmmhhgnackaaDoor
open Go.RowKit

structure Lab where
  name : ByteArray
  list : List ByteArray

def Lab.fit (x : Lab) : Prop := x.name.size ≤ maxLen

def Lab.wt (x : Lab) : Nat := x.name.size + (x.list.length + lets x.list)

def RLab : Rd Lab := fun lo w vs x => ∃ (a0 : Option Addr) (c0 : Nat), vs = [.string x.name, .slice a0 x.list.length c0] ∧ x.fit ∧ Ss lo w a0 c0 x.list

theorem goodLab : Good RLab := by
  constructor
  · rintro lo w w' vs x ⟨a0, c0, h, f, s0⟩ hk
    exact ⟨a0, c0, h, f, s0.kept hk⟩
  · rintro lo lo' w vs x ⟨a0, c0, h, f, s0⟩ hl
    exact ⟨a0, c0, h, f, s0.lower hl⟩

structure Sq where
  name : ByteArray
  start : Int

def Sq.fit (x : Sq) : Prop := x.name.size ≤ maxLen ∧ i64E x.start

def Sq.wt (x : Sq) : Nat := x.name.size

def RSq : Rd Sq := fun lo w vs x => vs = [.string x.name, .int .i64 x.start] ∧ x.fit

theorem goodSq : Good RSq := by
  constructor
  · rintro lo w w' vs x ⟨h, f⟩ _
    exact ⟨h, f⟩
  · rintro lo lo' w vs x ⟨h, f⟩ _
    exact ⟨h, f⟩

structure Co where
  name : ByteArray
  ty : Ty
  notNull : Bool
  dflt : List Ex

def Co.fit (x : Co) : Prop := x.name.size ≤ maxLen ∧ x.ty.name.size ≤ maxLen ∧ i64E x.ty.kind ∧ i64E x.ty.len

def Co.wt (x : Co) : Nat := x.name.size + x.ty.name.size + (x.dflt.length + wtL x.dflt)

def RCo : Rd Co := fun lo w vs x => ∃ (a0 : Option Addr) (c0 : Nat), vs = [.string x.name, .int .i64 x.ty.kind, .int .i64 x.ty.len, .string x.ty.name, .bool x.notNull, .slice a0 x.dflt.length c0] ∧ x.fit ∧ Ks lo w a0 c0 x.dflt

theorem goodCo : Good RCo := by
  constructor
  · rintro lo w w' vs x ⟨a0, c0, h, f, s0⟩ hk
    exact ⟨a0, c0, h, f, s0.kept hk⟩
  · rintro lo lo' w vs x ⟨a0, c0, h, f, s0⟩ hl
    exact ⟨a0, c0, h, f, s0.lower hl⟩

structure Ru where
  name : ByteArray
  kind : Int
  cols : List ByteArray
  expr : List Ex
  table : ByteArray
  to : List ByteArray

def Ru.fit (x : Ru) : Prop := x.name.size ≤ maxLen ∧ i64E x.kind ∧ x.table.size ≤ maxLen

def Ru.wt (x : Ru) : Nat := x.name.size + (x.cols.length + lets x.cols) + (x.expr.length + wtL x.expr) + x.table.size + (x.to.length + lets x.to)

def RRu : Rd Ru := fun lo w vs x => ∃ (a0 : Option Addr) (c0 : Nat), ∃ (a1 : Option Addr) (c1 : Nat), ∃ (a2 : Option Addr) (c2 : Nat), vs = [.string x.name, .int .i64 x.kind, .slice a0 x.cols.length c0, .slice a1 x.expr.length c1, .string x.table, .slice a2 x.to.length c2] ∧ x.fit ∧ Ss lo w a0 c0 x.cols ∧ Ks lo w a1 c1 x.expr ∧ Ss lo w a2 c2 x.to

theorem goodRu : Good RRu := by
  constructor
  · rintro lo w w' vs x ⟨a0, c0, a1, c1, a2, c2, h, f, s0, s1, s2⟩ hk
    exact ⟨a0, c0, a1, c1, a2, c2, h, f, s0.kept hk, s1.kept hk, s2.kept hk⟩
  · rintro lo lo' w vs x ⟨a0, c0, a1, c1, a2, c2, h, f, s0, s1, s2⟩ hl
    exact ⟨a0, c0, a1, c1, a2, c2, h, f, s0.lower hl, s1.lower hl, s2.lower hl⟩

structure Tb where
  name : ByteArray
  cols : List Co
  rules : List Ru
  token : Int

def Tb.fit (x : Tb) : Prop := x.name.size ≤ maxLen ∧ i64E x.token

def Tb.wt (x : Tb) : Nat := x.name.size + (x.cols.length + wtS Co.wt x.cols) + (x.rules.length + wtS Ru.wt x.rules)

def RTb : Rd Tb := fun lo w vs x => ∃ (a0 : Option Addr) (c0 : Nat), ∃ (a1 : Option Addr) (c1 : Nat), vs = [.string x.name, .slice a0 x.cols.length c0, .slice a1 x.rules.length c1, .int .i64 x.token] ∧ x.fit ∧ Sl 6 RCo lo w a0 c0 x.cols ∧ Sl 6 RRu lo w a1 c1 x.rules

theorem goodTb : Good RTb := by
  constructor
  · rintro lo w w' vs x ⟨a0, c0, a1, c1, h, f, s0, s1⟩ hk
    exact ⟨a0, c0, a1, c1, h, f, s0.kept goodCo hk, s1.kept goodRu hk⟩
  · rintro lo lo' w vs x ⟨a0, c0, a1, c1, h, f, s0, s1⟩ hl
    exact ⟨a0, c0, a1, c1, h, f, s0.lower goodCo hl, s1.lower goodRu hl⟩

structure Ix where
  name : ByteArray
  table : ByteArray
  cols : List ByteArray
  uniq : Bool

def Ix.fit (x : Ix) : Prop := x.name.size ≤ maxLen ∧ x.table.size ≤ maxLen

def Ix.wt (x : Ix) : Nat := x.name.size + x.table.size + (x.cols.length + lets x.cols)

def RIx : Rd Ix := fun lo w vs x => ∃ (a0 : Option Addr) (c0 : Nat), vs = [.string x.name, .string x.table, .slice a0 x.cols.length c0, .bool x.uniq] ∧ x.fit ∧ Ss lo w a0 c0 x.cols

theorem goodIx : Good RIx := by
  constructor
  · rintro lo w w' vs x ⟨a0, c0, h, f, s0⟩ hk
    exact ⟨a0, c0, h, f, s0.kept hk⟩
  · rintro lo lo' w vs x ⟨a0, c0, h, f, s0⟩ hl
    exact ⟨a0, c0, h, f, s0.lower hl⟩

structure Vw where
  name : ByteArray
  table : ByteArray
  cols : List ByteArray
  whr : List Ex

def Vw.fit (x : Vw) : Prop := x.name.size ≤ maxLen ∧ x.table.size ≤ maxLen

def Vw.wt (x : Vw) : Nat := x.name.size + x.table.size + (x.cols.length + lets x.cols) + (x.whr.length + wtL x.whr)

def RVw : Rd Vw := fun lo w vs x => ∃ (a0 : Option Addr) (c0 : Nat), ∃ (a1 : Option Addr) (c1 : Nat), vs = [.string x.name, .string x.table, .slice a0 x.cols.length c0, .slice a1 x.whr.length c1] ∧ x.fit ∧ Ss lo w a0 c0 x.cols ∧ Ks lo w a1 c1 x.whr

theorem goodVw : Good RVw := by
  constructor
  · rintro lo w w' vs x ⟨a0, c0, a1, c1, h, f, s0, s1⟩ hk
    exact ⟨a0, c0, a1, c1, h, f, s0.kept hk, s1.kept hk⟩
  · rintro lo lo' w vs x ⟨a0, c0, a1, c1, h, f, s0, s1⟩ hl
    exact ⟨a0, c0, a1, c1, h, f, s0.lower hl, s1.lower hl⟩

structure Pl where
  enums : List Lab
  seqs : List Sq
  tables : List Tb
  indexes : List Ix
  views : List Vw
  next : Int

def Pl.fit (x : Pl) : Prop := i64E x.next

def Pl.wt (x : Pl) : Nat := (x.enums.length + wtS Lab.wt x.enums) + (x.seqs.length + wtS Sq.wt x.seqs) + (x.tables.length + wtS Tb.wt x.tables) + (x.indexes.length + wtS Ix.wt x.indexes) + (x.views.length + wtS Vw.wt x.views)

def RPl : Rd Pl := fun lo w vs x => ∃ (a0 : Option Addr) (c0 : Nat), ∃ (a1 : Option Addr) (c1 : Nat), ∃ (a2 : Option Addr) (c2 : Nat), ∃ (a3 : Option Addr) (c3 : Nat), ∃ (a4 : Option Addr) (c4 : Nat), vs = [.slice a0 x.enums.length c0, .slice a1 x.seqs.length c1, .slice a2 x.tables.length c2, .slice a3 x.indexes.length c3, .slice a4 x.views.length c4, .int .i64 x.next] ∧ x.fit ∧ Sl 2 RLab lo w a0 c0 x.enums ∧ Sl 2 RSq lo w a1 c1 x.seqs ∧ Sl 4 RTb lo w a2 c2 x.tables ∧ Sl 4 RIx lo w a3 c3 x.indexes ∧ Sl 4 RVw lo w a4 c4 x.views

theorem goodPl : Good RPl := by
  constructor
  · rintro lo w w' vs x ⟨a0, c0, a1, c1, a2, c2, a3, c3, a4, c4, h, f, s0, s1, s2, s3, s4⟩ hk
    exact ⟨a0, c0, a1, c1, a2, c2, a3, c3, a4, c4, h, f, s0.kept goodLab hk, s1.kept goodSq hk, s2.kept goodTb hk, s3.kept goodIx hk, s4.kept goodVw hk⟩
  · rintro lo lo' w vs x ⟨a0, c0, a1, c1, a2, c2, a3, c3, a4, c4, h, f, s0, s1, s2, s3, s4⟩ hl
    exact ⟨a0, c0, a1, c1, a2, c2, a3, c3, a4, c4, h, f, s0.lower goodLab hl, s1.lower goodSq hl, s2.lower goodTb hl, s3.lower goodIx hl, s4.lower goodVw hl⟩

end Go.Proofs.YtpdcmmhhgnackaaDoor

namespace Go.Proofs.YtpdcmmhhgnackaaDoor
open Go.RowKit

/-- The place of the first thing of that name; -1 where there is none. -/
def findAt {X : Type} (f : X → ByteArray) : List X → ByteArray → Int
  | [], _ => -1
  | x :: r, n => if ((f x).toList == n.toList) = true then 0 else if findAt f r n < 0 then -1 else findAt f r n + 1

theorem findAt_hit {X : Type} (f : X → ByteArray) (xs : List X) (n : ByteArray) (k : Nat) (h : k < xs.length) (hne : ∀ m (hm : m < xs.length), m < k → ((f xs[m]).toList == n.toList) = false) (he : ((f xs[k]).toList == n.toList) = true) : findAt f xs n = k := by
  induction xs generalizing k with
  | nil => simp at h
  | cons x r ih =>
    cases k with
    | zero =>
      have he' : ((f x).toList == n.toList) = true := he
      rw [findAt, if_pos he']
      rfl
    | succ k =>
      have h0 : ((f x).toList == n.toList) = false := hne 0 (by simp) (by omega)
      have hr := ih k (by simpa using h) (fun m hm hmk => hne (m + 1) (by simpa using hm) (by omega)) he
      rw [findAt, if_neg (by rw [h0]; simp), hr, if_neg (by omega)]
      omega

theorem findAt_miss {X : Type} (f : X → ByteArray) (xs : List X) (n : ByteArray) (hne : ∀ m (hm : m < xs.length), ((f xs[m]).toList == n.toList) = false) : findAt f xs n = -1 := by
  induction xs with
  | nil => rfl
  | cons x r ih =>
    have h0 : ((f x).toList == n.toList) = false := hne 0 (by simp)
    have hr := ih fun m hm => hne (m + 1) (by simpa using hm)
    rw [findAt, if_neg (by rw [h0]; simp), hr, if_pos (by omega)]

theorem findAt_small {X : Type} (f : X → ByteArray) (xs : List X) (n : ByteArray) : -1 ≤ findAt f xs n ∧ findAt f xs n < xs.length := by
  induction xs with
  | nil => simp [findAt]
  | cons x r ih =>
    rw [findAt, List.length_cons]
    split
    · omega
    · split <;> omega

end Go.Proofs.YtpdcmmhhgnackaaDoor

namespace Go.Proofs.YtpdcmmhhgnackaaDoor
open Go.RowKit

set_option maxHeartbeats 1000000 in
theorem specCol (a : Option Addr) (c : Nat) (xs : List Co) (n : ByteArray) (w : World) (hx : Sl 6 RCo 0 w a c xs) :
    Calls Tryd.prog 42 #[.slice a xs.length c, .string n] w fun e w' => e = .returned (.int .i64 (findAt Co.name xs n)) ∧ Below w.heap.size w w' := by
  have hl := hx.len
  have HK := Lib.hid (fun w' (hb : Below w.heap.size w w') => hx.kept goodCo (Kept.below hb))
  clear hx
  go_enter Tryd.func42, Tryd.ntmps42
  go_wp2_with fail
  go_loopw [5] (fun i wr => ∃ k : Nat, k ≤ xs.length ∧ i = .int .i64 k ∧ Hid (∀ m (hm : m < xs.length), m < k → (xs[m].name.toList == n.toList) = false) ∧ Below w.heap.size w wr) (fun i _ => xs.length - (intOf i).toNat)
  case atStart => exact ⟨0, Nat.zero_le _, rfl, fun m h hm => absurd hm (by omega), Below.refl _ _⟩
  case round =>
    obtain ⟨k, hk, rfl, hall, hb⟩ := hrel
    by_cases hlt : k < xs.length
    · obtain ⟨b, off, us, rfl, hbl, hcs, hR⟩ := (HK.out _ hb).spot hlt
      obtain ⟨p0, q0, rfl, _⟩ := hR
      have hc0 : wr.cell? ⟨b, off + k * 6, none⟩ = some (.string xs[k].name) := hcs 0 (by simp)
      clear hcs
      cases he : (xs[k].name.toList == n.toList) with
      | true =>
        have HE := Lib.hid (findAt_hit Co.name xs n k hlt hall.out he)
        go_wp2_with fail
        go_ret
        exact ⟨by rw [HE.out]; rfl, hb⟩
      | false =>
        have HE := Lib.hid he
        go_wp2_with fail
        go_roundw
        case rel => exact ⟨k + 1, by omega, by go_num, fun m hm h1 => by
          rcases Nat.lt_or_ge m k with h2 | h2
          · exact hall.out m hm h2
          · obtain rfl : m = k := by omega
            exact HE.out, hb⟩
        case measure => simp [intOf]; omega
    · have HE := Lib.hid (findAt_miss Co.name xs n fun m hm => hall.out m hm (by omega))
      go_wp2_with fail
      go_ret
      exact ⟨by rw [HE.out]; rfl, hb⟩

end Go.Proofs.YtpdcmmhhgnackaaDoor
