/- Lists of structures in memory, told once for all: how cells read, what keeps them, how rows of them are copied. -/
import Derived.Test.YtefjjcoaeanagaaDoorMEx
import Derived.Test.YtefjjcoaeanagaaDoorMLets
namespace Go.Proofs.YtefjjcoaeanagaaDoor
open Go.RowKit

/-- How something reads: R lo w vs x says that the cells vs read as x in w, with every block that they reach from lo on. -/
abbrev Rd (X : Type) := Nat → World → List Value → X → Prop

/-- Every block from lo on that w has reads in w' as in w. -/
def Kept (lo : Nat) (w w' : World) : Prop := w.heap.size ≤ w'.heap.size ∧ ∀ b, lo ≤ b → b < w.heap.size → ∀ o, w'.cell? ⟨b, o, none⟩ = w.cell? ⟨b, o, none⟩

theorem Kept.refl (lo : Nat) (w : World) : Kept lo w w := ⟨Nat.le_refl _, fun _ _ _ _ => rfl⟩
theorem Kept.trans {lo : Nat} {w w1 w2 : World} (h : Kept lo w w1) (h' : Kept lo w1 w2) : Kept lo w w2 :=
  ⟨Nat.le_trans h.1 h'.1, fun b hl hb o => (h'.2 b hl (Nat.lt_of_lt_of_le hb h.1) o).trans (h.2 b hl hb o)⟩
theorem Kept.below {lo : Nat} {w w' : World} (hb : Below w.heap.size w w') : Kept lo w w' :=
  ⟨hb.size, fun b _ hlt o => hb.cell (p := ⟨b, o, none⟩) hlt⟩
theorem Kept.set {lo : Nat} {w w' : World} (h : Kept lo w w') {p : Addr} (hp : p.block < lo) (v : Value) : Kept lo w (w'.setCell p v) :=
  ⟨by simpa [World.setCell] using h.1, fun b hl hb o => (World.cell?_setCell_other _ _ _ _ (by intro e; subst e; simp at hp; omega)).trans (h.2 b hl hb o)⟩
theorem Kept.up {lo lo' : Nat} {w w' : World} (h : Kept lo w w') (hl : lo ≤ lo') : Kept lo' w w' := ⟨h.1, fun b h1 h2 o => h.2 b (Nat.le_trans hl h1) h2 o⟩

structure Good {X : Type} (R : Rd X) : Prop where
  kept : ∀ {lo : Nat} {w w' : World} {vs : List Value} {x : X}, R lo w vs x → Kept lo w w' → R lo w' vs x
  lower : ∀ {lo lo' : Nat} {w : World} {vs : List Value} {x : X}, R lo w vs x → lo' ≤ lo → R lo' w vs x

/-- The slice (a, length of xs, c) holds the things xs, each of K cells. -/
def Sl {X : Type} (K : Nat) (R : Rd X) (lo : Nat) (w : World) (a : Option Addr) (c : Nat) (xs : List X) : Prop :=
  xs.length ≤ c ∧ c ≤ maxLen ∧ (a = none → c = 0) ∧
  (0 < xs.length → ∃ b off, a = some ⟨b, off, none⟩ ∧ lo ≤ b ∧ b < w.heap.size ∧ ∀ (i : Nat) (h : i < xs.length), ∃ vs : List Value, (∀ (j : Nat) (hj : j < vs.length), w.cell? ⟨b, off + i * K + j, none⟩ = some vs[j]) ∧ R lo w vs xs[i])

theorem Sl.len {X : Type} {K : Nat} {R : Rd X} {lo : Nat} {w : World} {a : Option Addr} {c : Nat} {xs : List X} (h : Sl K R lo w a c xs) : xs.length ≤ 9223372036854775807 := by
  have h1 := h.1
  have h2 := h.2.1
  unfold maxLen at h2
  omega

theorem Sl.spot {X : Type} {K : Nat} {R : Rd X} {lo : Nat} {w : World} {a : Option Addr} {c : Nat} {xs : List X} (h : Sl K R lo w a c xs) {i : Nat} (hi : i < xs.length) :
    ∃ b off vs, a = some ⟨b, off, none⟩ ∧ b < w.heap.size ∧ (∀ (j : Nat) (hj : j < vs.length), w.cell? ⟨b, off + i * K + j, none⟩ = some vs[j]) ∧ R lo w vs xs[i] := by
  obtain ⟨b, off, ha, _, hb, hc⟩ := h.2.2.2 (by omega)
  obtain ⟨vs, h1, h2⟩ := hc i hi
  exact ⟨b, off, vs, ha, hb, h1, h2⟩

theorem Sl.kept {X : Type} {K : Nat} {R : Rd X} (G : Good R) {lo : Nat} {w w' : World} {a : Option Addr} {c : Nat} {xs : List X} (h : Sl K R lo w a c xs) (hk : Kept lo w w') : Sl K R lo w' a c xs := by
  obtain ⟨h1, h2, h3, h4⟩ := h
  refine ⟨h1, h2, h3, fun hp => ?_⟩
  obtain ⟨b, off, ha, hl, hb, hc⟩ := h4 hp
  refine ⟨b, off, ha, hl, Nat.lt_of_lt_of_le hb hk.1, fun i hi => ?_⟩
  obtain ⟨vs, h5, h6⟩ := hc i hi
  exact ⟨vs, fun j hj => (hk.2 b hl hb _).trans (h5 j hj), G.kept h6 hk⟩

theorem Sl.lower {X : Type} {K : Nat} {R : Rd X} (G : Good R) {lo lo' : Nat} {w : World} {a : Option Addr} {c : Nat} {xs : List X} (h : Sl K R lo w a c xs) (hl : lo' ≤ lo) : Sl K R lo' w a c xs := by
  obtain ⟨h1, h2, h3, h4⟩ := h
  refine ⟨h1, h2, h3, fun hp => ?_⟩
  obtain ⟨b, off, ha, hlb, hb, hc⟩ := h4 hp
  refine ⟨b, off, ha, Nat.le_trans hl hlb, hb, fun i hi => ?_⟩
  obtain ⟨vs, h5, h6⟩ := hc i hi
  exact ⟨vs, h5, G.lower h6 hl⟩

theorem Sl.nil {X : Type} (K : Nat) (R : Rd X) (lo : Nat) (w : World) : Sl K R lo w none 0 ([] : List X) :=
  ⟨Nat.le_refl _, by unfold maxLen; omega, fun _ => rfl, fun h => absurd h (by simp)⟩

/-- Texts in a slice, in a block from lo on. -/
def Ss (lo : Nat) (w : World) (a : Option Addr) (c : Nat) (xs : List ByteArray) : Prop :=
  Strs w a c xs ∧ (0 < xs.length → ∃ b off, a = some ⟨b, off, none⟩ ∧ lo ≤ b)

theorem Ss.kept {lo : Nat} {w w' : World} {a : Option Addr} {c : Nat} {xs : List ByteArray} (h : Ss lo w a c xs) (hk : Kept lo w w') : Ss lo w' a c xs := by
  obtain ⟨⟨h1, h2, h3, h3', h4⟩, h5⟩ := h
  refine ⟨⟨h1, h2, h3, h3', fun hp => ?_⟩, h5⟩
  obtain ⟨b, off, ha, hlt, hc⟩ := h4 hp
  obtain ⟨b', off', ha', hl⟩ := h5 hp
  rw [ha] at ha'
  cases ha'
  exact ⟨b, off, ha, Nat.lt_of_lt_of_le hlt hk.1, fun i hi => (hk.2 b hl hlt _).trans (hc i hi)⟩

theorem Ss.lower {lo lo' : Nat} {w : World} {a : Option Addr} {c : Nat} {xs : List ByteArray} (h : Ss lo w a c xs) (hl : lo' ≤ lo) : Ss lo' w a c xs :=
  ⟨h.1, fun hp => by obtain ⟨b, off, ha, hb⟩ := h.2 hp; exact ⟨b, off, ha, Nat.le_trans hl hb⟩⟩

theorem Own.ss {w : World} {B : Nat} {a : Option Addr} {c : Nat} {xs : List ByteArray} (h : Own w B a c xs) (hs : ∀ s ∈ xs, s.size ≤ maxLen) : Ss B w a c xs := by
  refine ⟨h.strs hs, fun hp => ?_⟩
  rcases h.form with ⟨_, _, rfl⟩ | ⟨g, ha, hb, _⟩
  · simp at hp
  · exact ⟨g, 0, ha, hb⟩

theorem Strs.ss0 {w : World} {a : Option Addr} {c : Nat} {xs : List ByteArray} (h : Strs w a c xs) : Ss 0 w a c xs :=
  ⟨h, fun hp => by obtain ⟨b, off, ha, _⟩ := h.2.2.2.2 hp; exact ⟨b, off, ha, Nat.zero_le _⟩⟩

/-- Expressions in a slice, in blocks from lo on, however deep. -/
def Ks (lo : Nat) (w : World) (a : Option Addr) (c : Nat) (kids : List Ex) : Prop := ∃ d, KidsB lo w (d + 1) a c kids

theorem Ks.kept {lo : Nat} {w w' : World} {a : Option Addr} {c : Nat} {kids : List Ex} (h : Ks lo w a c kids) (hk : Kept lo w w') : Ks lo w' a c kids := by
  obtain ⟨d, h⟩ := h
  exact ⟨d, h.agree hk.1 hk.2⟩

theorem Ks.lower {lo lo' : Nat} {w : World} {a : Option Addr} {c : Nat} {kids : List Ex} (h : Ks lo w a c kids) (hl : lo' ≤ lo) : Ks lo' w a c kids := by
  obtain ⟨d, h⟩ := h
  exact ⟨d, h.lower hl⟩

theorem Ks.len {lo : Nat} {w : World} {a : Option Addr} {c : Nat} {kids : List Ex} (h : Ks lo w a c kids) : kids.length ≤ 9223372036854775807 := by
  obtain ⟨d, h⟩ := h
  exact h.at.len

theorem KidsAt.ks {w : World} {d : Nat} {a : Option Addr} {c : Nat} {kids : List Ex} (h : KidsAt w d a c kids) : Ks 0 w a c kids := ⟨d, (h.mono (Nat.le_succ d)).b0⟩

/-- What the things of a list weigh together. -/
def wtS {X : Type} (f : X → Nat) (xs : List X) : Nat := (xs.map f).sum

theorem wtS_take {X : Type} (f : X → Nat) (xs : List X) (k : Nat) (h : k < xs.length) : wtS f (xs.take (k + 1)) = wtS f (xs.take k) + f xs[k] := by
  unfold wtS
  rw [List.take_succ_eq_append_getElem h, List.map_append, List.sum_append]
  simp only [List.map_cons, List.map_nil, List.sum_cons, List.sum_nil, Nat.add_zero]

theorem wtS_le {X : Type} (f : X → Nat) (xs : List X) (k : Nat) : wtS f (xs.take k) ≤ wtS f xs := by
  unfold wtS
  conv => rhs; rw [← List.take_append_drop k xs, List.map_append, List.sum_append]
  omega

theorem wtS_get {X : Type} (f : X → Nat) {xs : List X} {k : Nat} (h : k < xs.length) : f xs[k] ≤ wtS f xs := by
  have h1 := wtS_take f xs k h
  have h2 := wtS_le f xs (k + 1)
  omega

/-- The cells of a block, all of them free to be written. -/
def Blk (w : World) (b : Nat) (vs : List Value) : Prop := b < w.heap.size ∧ ∀ (j : Nat) (h : j < vs.length), w.cell? ⟨b, j, none⟩ = some vs[j] ∧ w.frozen? ⟨b, j, none⟩ = false

theorem Blk.below {w w' : World} {b : Nat} {vs : List Value} (h : Blk w b vs) (hb : Below w.heap.size w w') : Blk w' b vs :=
  ⟨Nat.lt_of_lt_of_le h.1 hb.size, fun j hj => ⟨(hb.cell (p := ⟨b, j, none⟩) h.1).trans (h.2 j hj).1, (hb.frozen (p := ⟨b, j, none⟩) h.1).trans (h.2 j hj).2⟩⟩

/-- The cells o, o + 1, .. of a block are written one after the other. -/
def stores (w : World) (b : Nat) : Nat → List Value → World
  | _, [] => w
  | o, v :: r => stores (w.setCell ⟨b, o, none⟩ v) b (o + 1) r

def setAll (l : List Value) : Nat → List Value → List Value
  | _, [] => l
  | o, v :: r => setAll (l.set o v) (o + 1) r

theorem setAll_mid : ∀ (vs p r q : List Value), vs.length = r.length → setAll (p ++ (r ++ q)) p.length vs = p ++ (vs ++ q)
  | [], p, r, q, h => by
    have : r = [] := List.eq_nil_of_length_eq_zero h.symm
    subst this
    rfl
  | v :: vt, p, [], q, h => by simp at h
  | v :: vt, p, y :: rt, q, h => by
    have e : (p ++ (y :: rt ++ q)).set p.length v = (p ++ [v]) ++ (rt ++ q) := by
      rw [List.set_append_right _ _ (Nat.le_refl _), Nat.sub_self, List.cons_append, List.set_cons_zero, List.append_assoc]
      rfl
    rw [setAll, e, show p.length + 1 = (p ++ [v]).length by simp, setAll_mid vt (p ++ [v]) rt q (by simpa using h), List.append_assoc]
    rfl

theorem stores_own {B : Nat} {T : TypeId} {K n b c : Nat} : ∀ (vs : List Value) {w : World} {cs : List Value} (o : Nat), w.ownsRow B T K (.slice (some ⟨b, 0, none⟩) n c) n cs →
    (stores w b o vs).ownsRow B T K (.slice (some ⟨b, 0, none⟩) n c) n (setAll cs o vs)
  | [], _, _, _, h => h
  | v :: r, _, _, o, h => stores_own r (o + 1) (h.stored o v).1

theorem stores_kept {lo b : Nat} (hb : b < lo) : ∀ (vs : List Value) {w w' : World} (o : Nat), Kept lo w w' → Kept lo w (stores w' b o vs)
  | [], _, _, _, h => h
  | v :: r, _, _, o, h => stores_kept hb r (o + 1) (h.set (p := ⟨b, o, none⟩) hb v)

theorem stores_below {B b : Nat} (hb : B ≤ b) : ∀ (vs : List Value) {w w' : World} (o : Nat), Below B w w' → Below B w (stores w' b o vs)
  | [], _, _, _, h => h
  | v :: r, _, _, o, h => stores_below hb r (o + 1) (h.setCell (p := ⟨b, o, none⟩) hb v)

theorem stores_size (b : Nat) : ∀ (vs : List Value) (w : World) (o : Nat), (stores w b o vs).heap.size = w.heap.size
  | [], _, _ => rfl
  | v :: r, w, o => by rw [stores, stores_size b r]; simp [World.setCell]

/-- The rows put so far, then empty ones. -/
def rfill (rows : List (List Value)) (z : List Value) (n : Nat) : List Value := (rows ++ List.replicate (n - rows.length) z).flatten

theorem flat_len {K : Nat} : ∀ {rows : List (List Value)}, (∀ r ∈ rows, r.length = K) → rows.flatten.length = rows.length * K
  | [], _ => by simp
  | r :: rs, h => by
    rw [List.flatten_cons, List.length_append, flat_len fun x hx => h x (List.mem_cons_of_mem _ hx), h r (List.mem_cons_self ..), List.length_cons, Nat.add_mul]
    omega

theorem flat_at {K : Nat} : ∀ {rows : List (List Value)}, (∀ r ∈ rows, r.length = K) → ∀ (i : Nat) (h : i < rows.length) (j : Nat), j < K → rows.flatten[i * K + j]? = rows[i][j]?
  | [], _, i, h, _, _ => by simp at h
  | r :: rs, hr, 0, _, j, hj => by
    rw [List.flatten_cons, Nat.zero_mul, Nat.zero_add, List.getElem?_append_left (by rw [hr r (List.mem_cons_self ..)]; exact hj)]
    rfl
  | r :: rs, hr, i + 1, h, j, hj => by
    have hl := hr r (List.mem_cons_self ..)
    rw [List.flatten_cons, List.getElem?_append_right (by rw [hl, Nat.add_mul]; omega), hl, show (i + 1) * K + j - K = i * K + j by rw [Nat.add_mul]; omega, flat_at (fun x hx => hr x (List.mem_cons_of_mem _ hx)) i (by simpa using h) j hj]
    rfl

theorem rfill_set {K : Nat} {rows : List (List Value)} {z vs : List Value} {n : Nat} (hr : ∀ r ∈ rows, r.length = K) (hz : z.length = K) (hv : vs.length = K) (h : rows.length < n) :
    setAll (rfill rows z n) (rows.length * K) vs = rfill (rows ++ [vs]) z n := by
  unfold rfill
  rw [show n - rows.length = (n - (rows ++ [vs]).length) + 1 by simp; omega, List.replicate_succ, List.flatten_append, List.flatten_cons, ← flat_len hr, setAll_mid vs rows.flatten z _ (by rw [hv, hz])]
  simp

theorem rfill_at {K : Nat} {rows : List (List Value)} {z : List Value} {n : Nat} (hr : ∀ r ∈ rows, r.length = K) (h : rows.length < n) (j : Nat) (hj : j < z.length) :
    (rfill rows z n)[rows.length * K + j]? = some z[j] := by
  unfold rfill
  rw [show n - rows.length = (n - rows.length - 1) + 1 by omega, List.replicate_succ, List.flatten_append, List.flatten_cons, List.getElem?_append_right (by rw [flat_len hr]; omega), flat_len hr, Nat.add_sub_cancel_left, List.getElem?_append_left hj, List.getElem?_eq_getElem hj]

theorem rfill_none (z : List Value) (n : Nat) (hz : 0 < z.length) : rfill [] z n = (madeCells z.toArray (n * z.length)).toList := by
  unfold rfill
  rw [List.nil_append, List.length_nil, Nat.sub_zero]
  have hr : ∀ r ∈ List.replicate n z, r.length = z.length := fun r h => by rw [List.eq_of_mem_replicate h]
  apply List.ext_getElem?
  intro j
  by_cases hj : j < n * z.length
  · have hq : j / z.length < n := Nat.div_lt_of_lt_mul (by rw [Nat.mul_comm]; exact hj)
    have hm : j % z.length < z.length := Nat.mod_lt _ hz
    have hdm : j / z.length * z.length + j % z.length = j := by rw [Nat.mul_comm]; exact Nat.div_add_mod _ _
    have h1 := flat_at hr (j / z.length) (by simpa using hq) (j % z.length) hm
    rw [hdm] at h1
    rw [h1, List.getElem_replicate]
    simp [madeCells, hj]
    rw [List.getElem?_eq_getElem hm]
    rfl
  · rw [List.getElem?_eq_none (by rw [flat_len hr]; simpa using hj), List.getElem?_eq_none (by simp [madeCells]; omega)]

/-- What has been copied of a row of things. -/
def DoneR {X : Type} (T : TypeId) (K : Nat) (R : Rd X) (z : List Value) (w : World) (xs : List X) (k : Nat) (wr : World) : Prop :=
  k ≤ xs.length ∧ (∃ rows : List (List Value), rows.length = k ∧ (∀ r ∈ rows, r.length = K) ∧ (∀ (j : Nat) (h : j < rows.length) (h' : j < xs.length), R (w.heap.size + 1) wr rows[j] xs[j]) ∧
    wr.ownsRow w.heap.size T K (.slice (some ⟨w.heap.size, 0, none⟩) xs.length xs.length) xs.length (rfill rows z xs.length)) ∧ w.heap.size < wr.heap.size ∧ Below w.heap.size w wr

theorem ownsRow_size {w : World} {B : Nat} {T : TypeId} {K n g l c : Nat} {cs : List Value} (h : w.ownsRow B T K (.slice (some ⟨g, 0, none⟩) l c) n cs) : g < w.heap.size := by
  rcases h.2 with ⟨h, _⟩ | ⟨g', cap, cur, hv, _, hgg, _⟩
  · cases h
  · simp only [Value.slice.injEq, Option.some.injEq, Addr.mk.injEq] at hv
    rcases Nat.lt_or_ge g w.heap.size with h | h
    · exact h
    · rw [← hv.1.1, Array.getElem?_eq_none h] at hgg; cases hgg

theorem DoneR.new {X : Type} {T : TypeId} {R : Rd X} {z : List Value} {w w1 : World} {xs : List X} (hz : 0 < z.length)
    (hown : w1.ownsRow w.heap.size T z.length (.slice (some ⟨w.heap.size, 0, none⟩) xs.length xs.length) xs.length (madeCells z.toArray (xs.length * z.length)).toList) (hg : w.grownBy w1 none) : DoneR T z.length R z w xs 0 w1 := by
  refine ⟨Nat.zero_le _, ⟨[], rfl, fun r h => by simp at h, fun j h => by simp at h, ?_⟩, ownsRow_size hown, (Below.refl _ _).grown hg (Nat.le_refl _) (fun k hk => by cases hk)⟩
  rw [rfill_none z _ hz]
  exact hown

theorem ownsRow_below {w w2 : World} {B : Nat} {T : TypeId} {K n g c : Nat} {cs : List Value} (h : w.ownsRow B T K (.slice (some ⟨g, 0, none⟩) n c) n cs) (hb2 : Below w.heap.size w w2) : w2.ownsRow B T K (.slice (some ⟨g, 0, none⟩) n c) n cs :=
  World.ownsRow.kept (row := none) h ⟨hb2.os, hb2.tape, hb2.output, hb2.size, fun k hk _ => hb2.block k hk⟩ (.inr (fun e => by cases e))

theorem DoneR.cells {X : Type} {T : TypeId} {K : Nat} {R : Rd X} {z : List Value} {w wr w2 : World} {xs : List X} {k : Nat} (h : DoneR T K R z w xs k wr) (hz : z.length = K) (hlt : k < xs.length) (hb2 : Below wr.heap.size wr w2) :
    (∀ (j : Nat) (hj : j < z.length), w2.cell? ⟨w.heap.size, k * K + j, none⟩ = some z[j]) ∧ ∀ o, w2.frozen? ⟨w.heap.size, o, none⟩ = false := by
  obtain ⟨_, ⟨rows, rfl, hr, _, hown⟩, _, _⟩ := h
  have hown2 := ownsRow_below hown hb2
  refine ⟨fun j hj => ?_, fun o => hown2.frozenAt o⟩
  have hlt' : rows.length * K + j < xs.length * K := by
    have : (rows.length + 1) * K ≤ xs.length * K := Nat.mul_le_mul_right K hlt
    rw [Nat.add_mul] at this
    omega
  exact (hown2.cellAt _ hlt').trans (rfill_at hr hlt j hj)

theorem DoneR.step {X : Type} {T : TypeId} {K : Nat} {R : Rd X} (G : Good R) {z : List Value} {w wr w2 w3 : World} {xs : List X} {k : Nat} (h : DoneR T K R z w xs k wr) (hz : z.length = K) (hlt : k < xs.length) {vs : List Value}
    (hv : vs.length = K) (hR : R wr.heap.size w2 vs xs[k]) (hb2 : Below wr.heap.size wr w2) (h3 : w3 = stores w2 w.heap.size (k * K) vs) : DoneR T K R z w xs (k + 1) w3 := by
  subst h3
  obtain ⟨hle, ⟨rows, rfl, hr, hd, hown⟩, hlw, hbw⟩ := h
  have hown2 := ownsRow_below hown hb2
  have hst := stores_own vs (rows.length * K) hown2
  rw [rfill_set hr hz hv hlt] at hst
  have hkk : Kept (w.heap.size + 1) w2 (stores w2 w.heap.size (rows.length * K) vs) := stores_kept (Nat.lt_succ_self _) vs _ (Kept.refl _ _)
  refine ⟨hlt, ⟨rows ++ [vs], by simp, ?_, fun j hj hj' => ?_, hst⟩, by rw [stores_size]; exact Nat.lt_of_lt_of_le hlw hb2.size, stores_below (Nat.le_refl _) vs _ (hbw.trans (hb2.mono hbw.size))⟩
  · intro r hm
    rcases List.mem_append.1 hm with h | h
    · exact hr r h
    · rw [List.mem_singleton.1 h, hv]
  · by_cases hjl : j < rows.length
    · rw [List.getElem_append_left hjl]
      exact G.kept (G.kept (hd j hjl hj') (Kept.below hb2)) hkk
    · have hje : j = rows.length := by simp at hj; omega
      subst hje
      rw [List.getElem_append_right (Nat.le_refl _)]
      simp only [Nat.sub_self, List.getElem_cons_zero]
      exact G.kept (G.lower hR hlw) hkk

theorem DoneR.end {X : Type} {T : TypeId} {K : Nat} {R : Rd X} (G : Good R) {z : List Value} {w wr : World} {xs : List X} (h : DoneR T K R z w xs xs.length wr) (hm : xs.length ≤ maxLen) :
    Sl K R w.heap.size wr (some ⟨w.heap.size, 0, none⟩) xs.length xs := by
  obtain ⟨_, ⟨rows, hl, hr, hd, hown⟩, hlt, hb⟩ := h
  refine ⟨Nat.le_refl _, hm, (fun h => by cases h), fun hp => ⟨w.heap.size, 0, rfl, Nat.le_refl _, hlt, fun i hi => ⟨rows[i]'(by omega), fun j hj => ?_, G.lower (hd i (by omega) hi) (by omega)⟩⟩⟩
  have hK : rows[i].length = K := hr _ (List.getElem_mem (by omega))
  have hlt' : i * K + j < xs.length * K := by
    have : (i + 1) * K ≤ xs.length * K := Nat.mul_le_mul_right K hi
    rw [Nat.add_mul] at this
    omega
  have := (World.ownsRow.cellAt (w := wr) hown (i * K + j) hlt')
  rw [Nat.zero_add, this, rfill, ← hl, Nat.sub_self, List.replicate_zero, List.append_nil, flat_at hr i (by omega) j (by omega), List.getElem?_eq_getElem hj]

end Go.Proofs.YtefjjcoaeanagaaDoor
