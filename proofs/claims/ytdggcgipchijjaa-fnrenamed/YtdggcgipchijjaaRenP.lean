/- Expressions renamed, as trees; one node that is copied. -/
import Derived.Test.YtdggcgipchijjaaExOwn
import Derived.Deep.RegionHeldLaw
import Derived.Deep.RegionLaw
import Derived.Deep.AppendLies
namespace Go.Proofs.Ytdggcgipchijjaa
open Go.RowKit

/-- What a text becomes. -/
def rtx (f t : ByteArray) (k : Int) (s : ByteArray) : ByteArray := if (k == 0) = true ∧ (s.toList == f.toList) = true then t else s

mutual
def renE (f t : ByteArray) : Ex → Ex
  | .mk k s n kids => .mk k (rtx f t k s) n (renL f t kids)
def renL (f t : ByteArray) : List Ex → List Ex
  | [] => []
  | e :: r => renE f t e :: renL f t r
end

theorem renE_eq (f t : ByteArray) (e : Ex) : renE f t e = .mk e.kind (rtx f t e.kind e.text) e.num (renL f t e.kids) := by
  cases e; rw [renE]; rfl

theorem renL_map (f t : ByteArray) (l : List Ex) : renL f t l = l.map (renE f t) := by
  induction l with
  | nil => simp [renL]
  | cons e r ih => simp [renL, ih]

theorem renL_length (f t : ByteArray) (l : List Ex) : (renL f t l).length = l.length := by rw [renL_map]; simp

theorem rtx_size {f t : ByteArray} {k : Int} {s : ByteArray} {N : Nat} (ht : t.size ≤ N) (hs : s.size ≤ N) : (rtx f t k s).size ≤ N := by
  unfold rtx; split
  · exact ht
  · exact hs

/-- The rows that lie behind a list of kids, with where each one's kids lie. -/
theorem KidsAt.es {w : World} {d : Nat} {a : Option Addr} {c : Nat} {kids : List Ex} (h : KidsAt w (d + 1) a c kids) :
    ∃ es : List Es, es.map Es.e = kids ∧ (∀ x ∈ es, x.e.fit ∧ KidsAt w d x.a x.c x.e.kids) ∧ (0 < kids.length → ∃ b off, a = some ⟨b, off, none⟩ ∧ b < w.heap.size ∧ ∀ (j : Nat) (u : Value), (ecells es)[j]? = some u → w.cell? ⟨b, off + j, none⟩ = some u) := by
  obtain ⟨h1, h2, h3, h4⟩ := h
  by_cases hp : 0 < kids.length
  · obtain ⟨b, off, ha, hlt, hc⟩ := h4 hp
    have key : ∀ m, m ≤ kids.length → ∃ es : List Es, es.map Es.e = kids.take m ∧ (∀ x ∈ es, x.e.fit ∧ KidsAt w d x.a x.c x.e.kids) ∧ ∀ (i : Nat) (hi : i < es.length), w.cell? ⟨b, off + i * 4, none⟩ = some es[i].k ∧ w.cell? ⟨b, off + i * 4 + 1, none⟩ = some es[i].t ∧ w.cell? ⟨b, off + i * 4 + 2, none⟩ = some es[i].n ∧ w.cell? ⟨b, off + i * 4 + 3, none⟩ = some es[i].s := by
      intro m
      induction m with
      | zero => exact fun _ => ⟨[], by simp, by simp, fun i hi => by simp at hi⟩
      | succ m ih =>
        intro hm
        obtain ⟨es, e1, e2, e3⟩ := ih (by omega)
        obtain ⟨c0, c1, c2, hf, a', c', c3, hk⟩ := hc m (by omega)
        have hl : es.length = m := by have := congrArg List.length e1; simpa [Nat.min_eq_left (show m ≤ kids.length by omega)] using this
        refine ⟨es ++ [⟨kids[m], a', c'⟩], by rw [List.map_append, e1, List.take_succ_eq_append_getElem (by omega)]; rfl, fun x hx => ?_, fun i hi => ?_⟩
        · rcases List.mem_append.1 hx with hx | hx
          · exact e2 x hx
          · rw [List.mem_singleton] at hx; subst hx; exact ⟨hf, hk⟩
        · by_cases him : i < es.length
          · rw [List.getElem_append_left him]; exact e3 i him
          · have : i = m := by simp at hi; omega
            subst this
            rw [List.getElem_append_right (by omega)]
            simp only [hl, Nat.sub_self, List.getElem_cons_zero]
            exact ⟨c0, c1, c2, c3⟩
    obtain ⟨es, e1, e2, e3⟩ := key kids.length (Nat.le_refl _)
    rw [List.take_length] at e1
    refine ⟨es, e1, e2, fun _ => ⟨b, off, ha, hlt, fun j u hu => ?_⟩⟩
    have hj : j < es.length * 4 := by
      rw [← ecells_length]
      rcases Nat.lt_or_ge j (ecells es).length with h | h
      · exact h
      · rw [List.getElem?_eq_none h] at hu; cases hu
    have hq : j / 4 < es.length := by omega
    obtain ⟨t0, t1, t2, t3⟩ := ecells_at es (j / 4) hq
    obtain ⟨s0, s1, s2, s3⟩ := e3 (j / 4) hq
    have hm : j % 4 = 0 ∨ j % 4 = 1 ∨ j % 4 = 2 ∨ j % 4 = 3 := by omega
    rcases hm with hm | hm | hm | hm
    · have e : j / 4 * 4 = j := by omega
      rw [e] at t0 s0
      rw [t0] at hu; cases hu; exact s0
    · have e : j / 4 * 4 + 1 = j := by omega
      rw [e] at t1
      rw [t1] at hu; cases hu
      have e2 : off + j / 4 * 4 + 1 = off + j := by omega
      rw [e2] at s1; exact s1
    · have e : j / 4 * 4 + 2 = j := by omega
      rw [e] at t2
      rw [t2] at hu; cases hu
      have e2 : off + j / 4 * 4 + 2 = off + j := by omega
      rw [e2] at s2; exact s2
    · have e : j / 4 * 4 + 3 = j := by omega
      rw [e] at t3
      rw [t3] at hu; cases hu
      have e2 : off + j / 4 * 4 + 3 = off + j := by omega
      rw [e2] at s3; exact s3
  · have : kids = [] := List.eq_nil_of_length_eq_zero (by omega)
    subst this
    exact ⟨[], rfl, by simp, fun h => absurd h (by simp)⟩

/-- A copy of a list of kids: a new row that holds the same expressions. -/
def CopyK (B : Nat) (es : List Es) (a' : Option Addr) (c' : Nat) (w' : World) : Prop :=
  w'.ownsRow B 26 4 (.slice a' es.length c') es.length (ecells es) ∧ (es = [] → a' = none ∧ c' = 0)

theorem ecells_one (es : List Es) : ∀ u ∈ ecells es, u.oneCell' = true := by
  intro u hu
  obtain ⟨x, _, hx⟩ := List.mem_flatMap.1 hu
  simp at hx
  rcases hx with rfl | rfl | rfl | rfl <;> rfl

set_option maxRecDepth 100000 in
/-- append of all kids to an empty list, as one step of a region that draws its order. -/
theorem stepCopy {w : World} {ops : Array Oper} {o : Oper} {A : Act} {K : Act → World → Prop} {Q : Exit → Act → World → Prop} {E : Prop} (hgd : o.guard = none) (s x : Operand)
    (ho : o.op = .call { callee := .builtin .append, args := #[s, x], argTypes := #[24, 24] }) (hs : A.eval s = .slice none 0 0) (a : Option Addr) (c n : Nat) (es : List Es) (hx : A.eval x = .slice a n c) (hn : n = es.length) (hnil : a = none → es = [] ∧ c = 0)
    (hc : ∀ b off, a = some ⟨b, off, none⟩ → ∀ (j : Nat) (u : Value), (ecells es)[j]? = some u → w.cell? ⟨b, off + j, none⟩ = some u) (hsp : ∀ ad, a = some ad → es ≠ [] → ∃ b off, ad = ⟨b, off, none⟩) (hl : es.length ≤ 1048576)
    (h : ∀ a' c' w', Hid (CopyK w.heap.size es a' c' w' ∧ w.grownBy w' none) → K (A.put o.dst (.slice a' es.length c')) w') :
    if Region.wanted o (yielded ops A.tmps) = true then Oper.wp Try.prog o A w K Q else E := by
  have hw : Region.wanted o (yielded ops A.tmps) = true := by simp [Region.wanted, hgd]
  rw [if_pos hw]
  subst hn
  obtain ⟨i0, hi0, hz0, hz1, hz2⟩ := info_parts Try.infoExpr
  cases a with
  | none =>
    obtain ⟨rfl, rfl⟩ := hnil rfl
    have hown : w.ownsRow w.heap.size 26 4 (.slice none 0 0) 0 [] := World.ownsRow_nil _ _ _ _
    have hrun := run_append_owned_none (P := Try.prog) (w := w) w.heap.size 24 o.type 26 i0 4 Try.underlying24 hi0 (.slice none 0 0) 0 [] hown
    unfold Oper.wp
    simp only [execOp, ho, resolve, invoke, builtin, Sem.run_bind, Sem.run_pure, Result.andThen_ok, List.map_toArray, List.map_cons, List.map_nil, hs, hx, List.length_nil, hrun]
    exact h none 0 _ ⟨⟨hown, fun _ => ⟨rfl, rfl⟩⟩, World.grownBy.refl _ _⟩
  | some ad =>
    have hown : w.ownsRow w.heap.size 26 4 (.slice none 0 0) 0 [] := World.ownsRow_nil _ _ _ _
    have hnews : ∀ j u, (ecells es)[j]? = some u → w.cell? (ad.add j) = some u := by
      intro j u hu
      have hne : es ≠ [] := by rintro rfl; simp [ecells] at hu
      obtain ⟨b, off, rfl⟩ := hsp ad rfl hne
      have hadd : (⟨b, off, none⟩ : Addr).add j = ⟨b, off + j, none⟩ := by unfold Addr.add; by_cases h0 : j = 0 <;> simp [h0]
      rw [hadd]
      exact hc b off rfl j u hu
    obtain ⟨v', w', hr, h2, h3, h4, h5⟩ := run_append_own_at (P := Try.prog) w w.heap.size 24 o.type 26 i0 (.agg #[.int .i64 0, .string ByteArray.empty, .int .i64 0, .slice none 0 0]) 4 56 Try.underlying24 hi0 hz0 hz1 hz2 rfl (by decide) (.slice none 0 0) 0 [] hown ad es.length c (ecells es) (ecells_length es) hnews (ecells_one es) (by unfold maxLen; omega) (by omega) (Nat.le_refl _)
    unfold Oper.wp
    simp only [execOp, ho, resolve, invoke, builtin, Sem.run_bind, Sem.run_pure, Result.andThen_ok, List.map_toArray, List.map_cons, List.map_nil, hs, hx, hr]
    rw [Nat.zero_add, List.nil_append] at h2
    rcases h2.2 with ⟨rfl, h0⟩ | ⟨g, cap, cur, rfl, _⟩
    · have h00 : es = [] := List.eq_nil_of_length_eq_zero h0
      subst h00
      exact h none 0 _ ⟨⟨h2, fun _ => ⟨rfl, rfl⟩⟩, h3⟩
    · refine h _ cap _ ⟨⟨h2, fun h0 => ?_⟩, h3⟩
      have := h4.2 ⟨rfl, by rw [h0]; rfl⟩
      cases this

end Go.Proofs.Ytdggcgipchijjaa
