/- Expressions: trees, how they lie in memory. -/
/- Expressions in memory: rows of expressions, trees in new blocks. -/
import Derived.Test.YtefjjcoaeanagaaDoorMem
import Derived.Laws.OwnMore
namespace Go.Proofs.YtefjjcoaeanagaaDoor
open Go.RowKit

/-- An expression as the program holds it. -/
inductive Ex where
  | mk (kind : Int) (text : ByteArray) (num : Int) (kids : List Ex)

def Ex.kind : Ex → Int | .mk k _ _ _ => k
def Ex.text : Ex → ByteArray | .mk _ t _ _ => t
def Ex.num : Ex → Int | .mk _ _ n _ => n
def Ex.kids : Ex → List Ex | .mk _ _ _ l => l

def Ex.v (e : Ex) (a : Option Addr) (c : Nat) : Value := .agg #[.int .i64 e.kind, .string e.text, .int .i64 e.num, .slice a e.kids.length c]

def i64E (n : Int) : Prop := -9223372036854775808 ≤ n ∧ n ≤ 9223372036854775807
def Ex.fit (e : Ex) : Prop := e.text.size ≤ maxLen ∧ i64E e.kind ∧ i64E e.num

/-- One expression lies at the cells from ⟨b, o⟩ on; P says of its kids' slice. -/
def At1 (w : World) (b o : Nat) (e : Ex) (P : Option Addr → Nat → Prop) : Prop :=
  w.cell? ⟨b, o, none⟩ = some (.int .i64 e.kind) ∧ w.cell? ⟨b, o + 1, none⟩ = some (.string e.text) ∧ w.cell? ⟨b, o + 2, none⟩ = some (.int .i64 e.num) ∧ e.fit ∧
  ∃ a c, w.cell? ⟨b, o + 3, none⟩ = some (.slice a e.kids.length c) ∧ P a c

/-- The slice (a, length of kids, c) reads as the expressions kids, no deeper than d. -/
def KidsAt (w : World) : Nat → Option Addr → Nat → List Ex → Prop
  | 0, _, _, _ => False
  | d + 1, a, c, kids => kids.length ≤ c ∧ c ≤ maxLen ∧ (a = none → c = 0) ∧
    (0 < kids.length → ∃ b off, a = some ⟨b, off, none⟩ ∧ b < w.heap.size ∧ ∀ (i : Nat) (h : i < kids.length), At1 w b (off + i * 4) kids[i] (fun a' c' => KidsAt w d a' c' kids[i].kids))

theorem At1.mono {w : World} {b o : Nat} {e : Ex} {P Q : Option Addr → Nat → Prop} (h : At1 w b o e P) (hpq : ∀ a c, P a c → Q a c) : At1 w b o e Q := by
  obtain ⟨h1, h2, h3, h4, a, c, h5, h6⟩ := h
  exact ⟨h1, h2, h3, h4, a, c, h5, hpq a c h6⟩

theorem KidsAt.below {w w' : World} (hb : Below w.heap.size w w') : ∀ {d : Nat} {a : Option Addr} {c : Nat} {kids : List Ex}, KidsAt w d a c kids → KidsAt w' d a c kids
  | 0, _, _, _, h => h
  | d + 1, a, c, kids, h => by
    obtain ⟨h1, h2, h3, h4⟩ := h
    refine ⟨h1, h2, h3, fun hp => ?_⟩
    obtain ⟨b, off, ha, hlt, hc⟩ := h4 hp
    refine ⟨b, off, ha, Nat.lt_of_lt_of_le hlt hb.size, fun i hi => ?_⟩
    obtain ⟨c1, c2, c3, hf, a', c', c4, hk⟩ := hc i hi
    have e : ∀ o, w'.cell? ⟨b, o, none⟩ = w.cell? ⟨b, o, none⟩ := fun o => hb.cell (p := ⟨b, o, none⟩) hlt
    exact ⟨(e _).trans c1, (e _).trans c2, (e _).trans c3, hf, a', c', (e _).trans c4, KidsAt.below hb hk⟩

theorem KidsAt.len {w : World} {d : Nat} {a : Option Addr} {c : Nat} {kids : List Ex} (h : KidsAt w d a c kids) : kids.length ≤ 9223372036854775807 := by
  cases d with
  | zero => exact h.elim
  | succ d => have h1 := h.1; have h2 := h.2.1; unfold maxLen at h2; omega

theorem KidsAt.spot {w : World} {d : Nat} {a : Option Addr} {c : Nat} {kids : List Ex} (h : KidsAt w (d + 1) a c kids) {i : Nat} (hi : i < kids.length) :
    ∃ b off, a = some ⟨b, off, none⟩ ∧ b < w.heap.size ∧ At1 w b (off + i * 4) kids[i] (fun a' c' => KidsAt w d a' c' kids[i].kids) := by
  obtain ⟨_, _, _, h4⟩ := h
  obtain ⟨b, off, ha, hlt, hc⟩ := h4 (by omega)
  exact ⟨b, off, ha, hlt, hc i hi⟩

theorem KidsAt.mono {w : World} : ∀ {d d' : Nat} {a : Option Addr} {c : Nat} {kids : List Ex}, d ≤ d' → KidsAt w d a c kids → KidsAt w d' a c kids
  | 0, _, _, _, _, _, h => h.elim
  | d + 1, 0, _, _, _, hd, _ => by omega
  | d + 1, d' + 1, a, c, kids, hd, h => by
    obtain ⟨h1, h2, h3, h4⟩ := h
    refine ⟨h1, h2, h3, fun hp => ?_⟩
    obtain ⟨b, off, ha, hlt, hc⟩ := h4 hp
    exact ⟨b, off, ha, hlt, fun i hi => (hc i hi).mono fun a' c' hk => KidsAt.mono (by omega) hk⟩

mutual
/-- What the laws' measure counts: letters and kids. -/
def Ex.wt : Ex → Nat
  | .mk _ t _ kids => t.size + (kids.length + wtL kids)
def wtL : List Ex → Nat
  | [] => 0
  | e :: r => e.wt + wtL r
end

theorem Ex.wt_eq (e : Ex) : e.wt = e.text.size + (e.kids.length + wtL e.kids) := by
  cases e; rw [Ex.wt]; rfl

mutual
def Ex.nodes : Ex → Nat
  | .mk _ _ _ kids => 1 + nodesL kids
def nodesL : List Ex → Nat
  | [] => 0
  | e :: r => e.nodes + nodesL r
end

theorem Ex.nodes_eq (e : Ex) : e.nodes = 1 + nodesL e.kids := by
  cases e; rw [Ex.nodes]; rfl

theorem wtL_take (l : List Ex) (k : Nat) (h : k < l.length) : wtL (l.take (k + 1)) = wtL (l.take k) + l[k].wt := by
  induction l generalizing k with
  | nil => simp at h
  | cons e r ih =>
    cases k with
    | zero => simp [wtL]
    | succ k =>
      simp only [List.take_succ_cons, wtL, List.getElem_cons_succ]
      rw [ih k (by simpa using h)]
      omega

theorem wtL_mono (l : List Ex) (k : Nat) : wtL (l.take k) ≤ wtL l := by
  induction l generalizing k with
  | nil => simp
  | cons e r ih =>
    cases k with
    | zero => simp [wtL]
    | succ k => simp only [List.take_succ_cons, wtL]; have := ih k; omega

theorem nodesL_take (l : List Ex) (k : Nat) (h : k < l.length) : nodesL (l.take (k + 1)) = nodesL (l.take k) + l[k].nodes := by
  induction l generalizing k with
  | nil => simp at h
  | cons e r ih =>
    cases k with
    | zero => simp [nodesL]
    | succ k =>
      simp only [List.take_succ_cons, nodesL, List.getElem_cons_succ]
      rw [ih k (by simpa using h)]
      omega

mutual
theorem nodes_wt : (e : Ex) → e.nodes ≤ 1 + e.wt
  | .mk _ t _ kids => by rw [Ex.nodes, Ex.wt]; have := nodesL_wt kids; omega
theorem nodesL_wt : (l : List Ex) → nodesL l ≤ l.length + wtL l
  | [] => by simp [nodesL]
  | e :: r => by rw [nodesL, wtL, List.length_cons]; have := nodes_wt e; have := nodesL_wt r; omega
end

end Go.Proofs.YtefjjcoaeanagaaDoor

namespace Go.Proofs.YtefjjcoaeanagaaDoor
open Go.RowKit

theorem bcellE {W w1 : World} (hb : Below W.heap.size W w1) : (∀ b o, b < W.heap.size → w1.cell? ⟨b, o, none⟩ = W.cell? ⟨b, o, none⟩) ∧ (∀ b o, b < W.heap.size → w1.frozen? ⟨b, o, none⟩ = W.frozen? ⟨b, o, none⟩) :=
  ⟨fun b o h => hb.cell (p := ⟨b, o, none⟩) h, fun b o h => hb.frozen (p := ⟨b, o, none⟩) h⟩

/-- An expression with the slice of its kids. -/
structure Es where
  e : Ex
  a : Option Addr
  c : Nat

def Es.k (x : Es) : Value := .int .i64 x.e.kind
def Es.t (x : Es) : Value := .string x.e.text
def Es.n (x : Es) : Value := .int .i64 x.e.num
def Es.s (x : Es) : Value := .slice x.a x.e.kids.length x.c
def es0 : Es := ⟨.mk 0 ByteArray.empty 0 [], none, 0⟩

def ecells (xs : List Es) : List Value := xs.flatMap fun x => [x.k, x.t, x.n, x.s]

theorem ecells_length (xs : List Es) : (ecells xs).length = xs.length * 4 := by
  induction xs with
  | nil => rfl
  | cons x r ih => rw [ecells, List.flatMap_cons, List.length_append]; unfold ecells at ih; rw [ih]; simp; omega

theorem ecells_append (xs ys : List Es) : ecells (xs ++ ys) = ecells xs ++ ecells ys := by simp [ecells]

theorem ecells_at : ∀ (xs : List Es) (i : Nat) (h : i < xs.length), (ecells xs)[i * 4]? = some xs[i].k ∧ (ecells xs)[i * 4 + 1]? = some xs[i].t ∧ (ecells xs)[i * 4 + 2]? = some xs[i].n ∧ (ecells xs)[i * 4 + 3]? = some xs[i].s
  | [], i, h => by simp at h
  | x :: r, 0, _ => ⟨rfl, rfl, rfl, rfl⟩
  | x :: r, i + 1, h => by
    have ih := ecells_at r i (by simpa using h)
    have e : ecells (x :: r) = [x.k, x.t, x.n, x.s] ++ ecells r := rfl
    rw [e]
    refine ⟨?_, ?_, ?_, ?_⟩
    · rw [List.getElem?_append_right (by simp; omega)]; simp only [List.length_cons, List.length_nil, List.getElem_cons_succ]; rw [show (i + 1) * 4 - (0 + 1 + 1 + 1 + 1) = i * 4 by omega]; exact ih.1
    · rw [List.getElem?_append_right (by simp; omega)]; simp only [List.length_cons, List.length_nil, List.getElem_cons_succ]; rw [show (i + 1) * 4 + 1 - (0 + 1 + 1 + 1 + 1) = i * 4 + 1 by omega]; exact ih.2.1
    · rw [List.getElem?_append_right (by simp; omega)]; simp only [List.length_cons, List.length_nil, List.getElem_cons_succ]; rw [show (i + 1) * 4 + 2 - (0 + 1 + 1 + 1 + 1) = i * 4 + 2 by omega]; exact ih.2.2.1
    · rw [List.getElem?_append_right (by simp; omega)]; simp only [List.length_cons, List.length_nil, List.getElem_cons_succ]; rw [show (i + 1) * 4 + 3 - (0 + 1 + 1 + 1 + 1) = i * 4 + 3 by omega]; exact ih.2.2.2

theorem ecells_set (ys : List Es) (k : Nat) (x : Es) (h : k < ys.length) : ((((ecells ys).set (k * 4) x.k).set (k * 4 + 1) x.t).set (k * 4 + 2) x.n).set (k * 4 + 3) x.s = ecells (ys.set k x) := by
  induction ys generalizing k with
  | nil => simp at h
  | cons y r ih =>
    cases k with
    | zero => rfl
    | succ k =>
      have e : ∀ (z : Es) s, ecells (z :: s) = z.k :: z.t :: z.n :: z.s :: ecells s := fun _ _ => rfl
      rw [List.set_cons_succ, e, e, show (k + 1) * 4 = k * 4 + 1 + 1 + 1 + 1 by omega]
      simp only [List.set_cons_succ]
      rw [← ih k (by simpa using h)]

/-- The expressions put so far, then empty ones. -/
def efill (xs : List Es) (n : Nat) : List Value := ecells (xs ++ List.replicate (n - xs.length) es0)

theorem efill_set (xs : List Es) (n : Nat) (x : Es) (h : xs.length < n) : (((((efill xs n).set (xs.length * 4) x.k).set (xs.length * 4 + 1) x.t).set (xs.length * 4 + 2) x.n).set (xs.length * 4 + 3) x.s) = efill (xs ++ [x]) n := by
  unfold efill
  rw [ecells_set _ xs.length x (by simp; omega), List.set_append_right _ _ (Nat.le_refl _), Nat.sub_self, show n - xs.length = (n - (xs ++ [x]).length) + 1 by simp; omega, List.replicate_succ, List.set_cons_zero, List.append_assoc]
  rfl

theorem efill_at (xs : List Es) (n : Nat) (h : xs.length < n) : (efill xs n)[xs.length * 4]? = some (.int .i64 0) ∧ (efill xs n)[xs.length * 4 + 1]? = some (.string ByteArray.empty) ∧ (efill xs n)[xs.length * 4 + 2]? = some (.int .i64 0) ∧ (efill xs n)[xs.length * 4 + 3]? = some (.slice none 0 0) := by
  unfold efill
  have h0 := ecells_at (xs ++ List.replicate (n - xs.length) es0) xs.length (by simp; omega)
  have hx : (xs ++ List.replicate (n - xs.length) es0)[xs.length]'(by simp; omega) = es0 := by
    rw [List.getElem_append_right (Nat.le_refl _)]; simp
  rw [hx] at h0
  exact h0

theorem efill_all (xs : List Es) : efill xs xs.length = ecells xs := by simp [efill]

theorem ecells_none (n : Nat) : ecells (List.replicate n es0) = (madeCells #[.int .i64 0, .string ByteArray.empty, .int .i64 0, .slice none 0 0] (n * 4)).toList := by
  apply List.ext_getElem?
  intro j
  by_cases hj : j < n * 4
  · have hq : j / 4 < n := by omega
    have := ecells_at (List.replicate n es0) (j / 4) (by simpa using hq)
    simp only [List.getElem_replicate] at this
    have hm : j % 4 = 0 ∨ j % 4 = 1 ∨ j % 4 = 2 ∨ j % 4 = 3 := by omega
    have hm3 : ∀ i, j / 4 * 4 + i < n * 4 → (madeCells #[Value.int .i64 0, .string ByteArray.empty, .int .i64 0, .slice none 0 0] (n * 4)).toList[j / 4 * 4 + i]? = #[Value.int .i64 0, .string ByteArray.empty, .int .i64 0, .slice none 0 0][i % 4]? := by
      intro i hi
      have e : (j / 4 * 4 + i) % 4 = i % 4 := by omega
      have h3 : i % 4 < [Value.int .i64 0, .string ByteArray.empty, .int .i64 0, .slice none 0 0].length := by simp; omega
      simp [madeCells, hi, e]
      rw [List.getElem?_eq_getElem h3]
      rfl
    rcases hm with hm | hm | hm | hm
    · have hj' : j / 4 * 4 + 0 = j := by omega
      rw [← hj', hm3 0 (by omega)]; exact this.1
    · have hj' : j / 4 * 4 + 1 = j := by omega
      rw [← hj', hm3 1 (by omega)]; exact this.2.1
    · have hj' : j / 4 * 4 + 2 = j := by omega
      rw [← hj', hm3 2 (by omega)]; exact this.2.2.1
    · have hj' : j / 4 * 4 + 3 = j := by omega
      rw [← hj', hm3 3 (by omega)]; exact this.2.2.2
  · rw [List.getElem?_eq_none (by rw [ecells_length]; simpa using hj), List.getElem?_eq_none (by simp [madeCells]; omega)]

/-- As KidsAt, and every block of the tree is one from lo on. -/
def KidsB (lo : Nat) (w : World) : Nat → Option Addr → Nat → List Ex → Prop
  | 0, _, _, _ => False
  | d + 1, a, c, kids => kids.length ≤ c ∧ c ≤ maxLen ∧ (a = none → c = 0) ∧
    (0 < kids.length → ∃ b off, a = some ⟨b, off, none⟩ ∧ lo ≤ b ∧ b < w.heap.size ∧ ∀ (i : Nat) (h : i < kids.length), At1 w b (off + i * 4) kids[i] (fun a' c' => KidsB lo w d a' c' kids[i].kids))

theorem KidsB.agree {lo : Nat} {w w' : World} (hs : w.heap.size ≤ w'.heap.size) (hc : ∀ b, lo ≤ b → b < w.heap.size → ∀ o, w'.cell? ⟨b, o, none⟩ = w.cell? ⟨b, o, none⟩) :
    ∀ {d : Nat} {a : Option Addr} {c : Nat} {kids : List Ex}, KidsB lo w d a c kids → KidsB lo w' d a c kids
  | 0, _, _, _, h => h
  | d + 1, a, c, kids, h => by
    obtain ⟨h1, h2, h3, h4⟩ := h
    refine ⟨h1, h2, h3, fun hp => ?_⟩
    obtain ⟨b, off, ha, hlo, hlt, hcs⟩ := h4 hp
    refine ⟨b, off, ha, hlo, Nat.lt_of_lt_of_le hlt hs, fun i hi => ?_⟩
    obtain ⟨c1, c2, c3, hf, a', c', c4, hk⟩ := hcs i hi
    have e := hc b hlo hlt
    exact ⟨(e _).trans c1, (e _).trans c2, (e _).trans c3, hf, a', c', (e _).trans c4, KidsB.agree hs hc hk⟩

theorem KidsB.below {lo : Nat} {w w' : World} {d : Nat} {a : Option Addr} {c : Nat} {kids : List Ex} (h : KidsB lo w d a c kids) (hb : Below w.heap.size w w') : KidsB lo w' d a c kids :=
  h.agree hb.size fun b _ hlt o => hb.cell (p := ⟨b, o, none⟩) hlt

theorem KidsB.lower {lo lo' : Nat} {w : World} (hl : lo' ≤ lo) : ∀ {d : Nat} {a : Option Addr} {c : Nat} {kids : List Ex}, KidsB lo w d a c kids → KidsB lo' w d a c kids
  | 0, _, _, _, h => h
  | d + 1, a, c, kids, h => by
    obtain ⟨h1, h2, h3, h4⟩ := h
    refine ⟨h1, h2, h3, fun hp => ?_⟩
    obtain ⟨b, off, ha, hlo, hlt, hcs⟩ := h4 hp
    exact ⟨b, off, ha, Nat.le_trans hl hlo, hlt, fun i hi => (hcs i hi).mono fun a' c' hk => KidsB.lower hl hk⟩

theorem KidsB.at {lo : Nat} {w : World} : ∀ {d : Nat} {a : Option Addr} {c : Nat} {kids : List Ex}, KidsB lo w d a c kids → KidsAt w d a c kids
  | 0, _, _, _, h => h
  | d + 1, a, c, kids, h => by
    obtain ⟨h1, h2, h3, h4⟩ := h
    refine ⟨h1, h2, h3, fun hp => ?_⟩
    obtain ⟨b, off, ha, hlo, hlt, hcs⟩ := h4 hp
    exact ⟨b, off, ha, hlt, fun i hi => (hcs i hi).mono fun a' c' hk => hk.at⟩

theorem KidsAt.b0 {w : World} : ∀ {d : Nat} {a : Option Addr} {c : Nat} {kids : List Ex}, KidsAt w d a c kids → KidsB 0 w d a c kids
  | 0, _, _, _, h => h
  | d + 1, a, c, kids, h => by
    obtain ⟨h1, h2, h3, h4⟩ := h
    refine ⟨h1, h2, h3, fun hp => ?_⟩
    obtain ⟨b, off, ha, hlt, hcs⟩ := h4 hp
    exact ⟨b, off, ha, Nat.zero_le _, hlt, fun i hi => (hcs i hi).mono fun a' c' hk => hk.b0⟩

theorem KidsB.nil (lo : Nat) (w : World) (d : Nat) : KidsB lo w (d + 1) none 0 [] :=
  ⟨Nat.le_refl _, by unfold maxLen; omega, fun _ => rfl, fun h => absurd h (by simp)⟩

theorem KidsB.mono {lo : Nat} {w : World} : ∀ {d d' : Nat} {a : Option Addr} {c : Nat} {kids : List Ex}, d ≤ d' → KidsB lo w d a c kids → KidsB lo w d' a c kids
  | 0, _, _, _, _, _, h => h.elim
  | d + 1, 0, _, _, _, hd, _ => by omega
  | d + 1, d' + 1, a, c, kids, hd, h => by
    obtain ⟨h1, h2, h3, h4⟩ := h
    refine ⟨h1, h2, h3, fun hp => ?_⟩
    obtain ⟨b, off, ha, hlo, hlt, hc⟩ := h4 hp
    exact ⟨b, off, ha, hlo, hlt, fun i hi => (hc i hi).mono fun a' c' hk => KidsB.mono (by omega) hk⟩

end Go.Proofs.YtefjjcoaeanagaaDoor
