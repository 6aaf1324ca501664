/- Trees that are renamed list by list: which lists wait, and what the tree reads as behind them. -/
import Derived.Test.YtdggcgipchijjaaRenP
import Derived.Test.YtdggcgipchijjaaExWalk
namespace Go.Proofs.Ytdggcgipchijjaa
open Go.RowKit

/-- A list that waits: its block, its capacity, what lies in it. -/
structure Pn where
  b : Nat
  c : Nat
  es : List Es

def Pn.v (p : Pn) : Value := .slice (some ⟨p.b, 0, none⟩) p.es.length p.c

/-- The tree of lists made so far: a list is empty, or waits (its kids lie in w0 as they came), or is done. -/
inductive PT (f t : ByteArray) (w0 W : World) : Option Addr → Nat → List Ex → List Nat → List Pn → Prop
  | nil : PT f t w0 W none 0 [] [] []
  | wait (p : Pn) (hp : 0 < p.es.length) (hc : p.c ≤ maxLen ∧ p.es.length ≤ p.c) (own : W.ownsRow p.b 26 4 (.slice (some ⟨p.b, 0, none⟩) p.es.length p.c) p.es.length (ecells p.es))
      (hk : ∀ x ∈ p.es, x.e.fit ∧ ∃ D, KidsAt w0 (D + 1) x.a x.c x.e.kids) : PT f t w0 W (some ⟨p.b, 0, none⟩) p.c (p.es.map Es.e) [p.b] [p]
  | done (b c : Nat) (kids : List Ex) (es : List Es) (bss : List (List Nat)) (pss : List (List Pn)) (hp : 0 < es.length) (hc : c ≤ maxLen ∧ es.length ≤ c) (hl : kids.length = es.length) (hlb : bss.length = es.length) (hlp : pss.length = es.length)
      (own : W.ownsRow b 26 4 (.slice (some ⟨b, 0, none⟩) es.length c) es.length (ecells es)) (he : es.map Es.e = renL f t kids) (hfit : ∀ x ∈ es, x.e.fit)
      (hk : ∀ (i : Nat) (h : i < es.length) (h1 : i < kids.length) (h2 : i < bss.length) (h3 : i < pss.length), PT f t w0 W es[i].a es[i].c kids[i].kids bss[i] pss[i]) : PT f t w0 W (some ⟨b, 0, none⟩) c kids (b :: bss.flatten) pss.flatten

theorem PT.lt {f t : ByteArray} {w0 W : World} {a : Option Addr} {c : Nat} {kids : List Ex} {bs : List Nat} {ps : List Pn} (h : PT f t w0 W a c kids bs ps) : ∀ g ∈ bs, g < W.heap.size := by
  induction h with
  | nil => simp
  | wait p hp hc own hk => intro g hg; rw [List.mem_singleton] at hg; subst hg; exact ownsRow_lt own
  | done b c kids es bss pss hp hc hl hlb hlp own he hfit hk ih =>
    intro g hg
    rcases List.mem_cons.1 hg with rfl | hg
    · exact ownsRow_lt own
    · obtain ⟨l, hl', hgl⟩ := List.mem_flatten.1 hg
      obtain ⟨i, hi, rfl⟩ := List.mem_iff_getElem.1 hl'
      exact ih i (by omega) (by omega) hi (by omega) g hgl

theorem PT.agree {f t : ByteArray} {w0 W W' : World} {a : Option Addr} {c : Nat} {kids : List Ex} {bs : List Nat} {ps : List Pn} (h : PT f t w0 W a c kids bs ps) : (∀ g ∈ bs, W'.heap[g]? = W.heap[g]?) → PT f t w0 W' a c kids bs ps := by
  induction h with
  | nil => intro _; exact .nil
  | wait p hp hc own hk => intro hb; exact .wait p hp hc (ownsRow_block own fun g hg => by cases hg; exact hb _ (List.mem_singleton.2 rfl)) hk
  | done b c kids es bss pss hp hc hl hlb hlp own he hfit hk ih =>
    intro hb
    exact .done b c kids es bss pss hp hc hl hlb hlp (ownsRow_block own fun g hg => by cases hg; exact hb _ (List.mem_cons_self ..)) he hfit fun i h0 h1 h2 h3 => ih i h0 h1 h2 h3 fun g hg => hb g (List.mem_cons_of_mem _ (List.mem_flatten.2 ⟨_, List.getElem_mem h2, hg⟩))

theorem PT.mem {f t : ByteArray} {w0 W : World} {a : Option Addr} {c : Nat} {kids : List Ex} {bs : List Nat} {ps : List Pn} (h : PT f t w0 W a c kids bs ps) : ∀ p ∈ ps, p.b ∈ bs := by
  induction h with
  | nil => simp
  | wait p hp hc own hk => intro q hq; rw [List.mem_singleton] at hq; subst hq; exact List.mem_singleton.2 rfl
  | done b c kids es bss pss hp hc hl hlb hlp own he hfit hk ih =>
    intro q hq
    obtain ⟨l, hl', hql⟩ := List.mem_flatten.1 hq
    obtain ⟨i, hi, rfl⟩ := List.mem_iff_getElem.1 hl'
    exact List.mem_cons_of_mem _ (List.mem_flatten.2 ⟨_, List.getElem_mem (show i < bss.length by omega), ih i (by omega) (by omega) (by omega) hi q hql⟩)

/-- What a waiting list holds. -/
theorem PT.waits {f t : ByteArray} {w0 W : World} {a : Option Addr} {c : Nat} {kids : List Ex} {bs : List Nat} {ps : List Pn} (h : PT f t w0 W a c kids bs ps) : ∀ p ∈ ps, 0 < p.es.length ∧ (p.c ≤ maxLen ∧ p.es.length ≤ p.c) ∧ W.ownsRow p.b 26 4 (.slice (some ⟨p.b, 0, none⟩) p.es.length p.c) p.es.length (ecells p.es) ∧ (∀ x ∈ p.es, x.e.fit ∧ ∃ D, KidsAt w0 (D + 1) x.a x.c x.e.kids) ∧ nodesL (p.es.map Es.e) ≤ nodesL kids ∧ wtL (p.es.map Es.e) ≤ wtL kids := by
  induction h with
  | nil => simp
  | wait p hp hc own hk => intro q hq; rw [List.mem_singleton] at hq; subst hq; exact ⟨hp, hc, own, hk, Nat.le_refl _, Nat.le_refl _⟩
  | done b c kids es bss pss hp hc hl hlb hlp own he hfit hk ih =>
    intro q hq
    obtain ⟨l, hl', hql⟩ := List.mem_flatten.1 hq
    obtain ⟨i, hi, rfl⟩ := List.mem_iff_getElem.1 hl'
    obtain ⟨h1, h2, h3, h4, h5, h6⟩ := ih i (by omega) (by omega) (by omega) hi q hql
    have hik : i < kids.length := by omega
    have n1 := nodesL_get hik
    have n2 := Ex.nodes_eq kids[i]
    have n3 := wtL_get hik
    have n4 := Ex.wt_eq kids[i]
    exact ⟨h1, h2, h3, h4, by omega, by omega⟩

theorem KidsO.mono {w : World} : ∀ {d d' : Nat} {a : Option Addr} {c : Nat} {kids : List Ex} {bs : List Nat}, d ≤ d' → KidsO w d a c kids bs → KidsO w d' a c kids bs
  | 0, _, _, _, _, _, _, h => h.elim
  | d + 1, 0, _, _, _, _, hd, _ => by omega
  | d + 1, d' + 1, a, c, kids, bs, hd, h => by
    obtain ⟨h1, h2, h3, h4⟩ := h
    refine ⟨h1, h2, h3, ?_⟩
    rcases h4 with h4 | ⟨b, es, bss, ha, hk, hl, hp, hbs, hown, hkid⟩
    · exact .inl h4
    · exact .inr ⟨b, es, bss, ha, hk, hl, hp, hbs, hown, fun i hi hi' => ⟨(hkid i hi hi').1, KidsO.mono (by omega) (hkid i hi hi').2⟩⟩

/-- Where nothing waits the tree is the one that is asked for. -/
theorem PT.end {f t : ByteArray} {w0 W : World} {a : Option Addr} {c : Nat} {kids : List Ex} {bs : List Nat} {ps : List Pn} (h : PT f t w0 W a c kids bs ps) : ps = [] → KidsO W (nodesL kids + 1) a c (renL f t kids) bs := by
  induction h with
  | nil => intro _; exact KidsO.nil _ _
  | wait p hp hc own hk => intro h; cases h
  | done b c kids es bss pss hp hc hl hlb hlp own he hfit hk ih =>
    intro h0
    refine ⟨hc.1, by rw [renL_length]; omega, (fun h => by cases h), .inr ⟨b, es, bss, rfl, he.symm, hlb, hp, rfl, own, fun i hi hi' => ⟨hfit _ (List.getElem_mem hi), ?_⟩⟩⟩
    have hik : i < kids.length := by omega
    have hip : i < pss.length := by omega
    have hpi : pss[i] = [] := by
      have hm := List.flatten_eq_nil_iff.1 h0
      exact hm _ (List.getElem_mem hip)
    have h1 := ih i hi hik hi' hip hpi
    have he1 : es[i].e = renE f t kids[i] := by
      have h2 : (es.map Es.e)[i]? = (renL f t kids)[i]? := by rw [he]
      rw [renL_map, List.getElem?_map, List.getElem?_map, List.getElem?_eq_getElem hi, List.getElem?_eq_getElem hik] at h2
      exact Option.some.inj h2
    rw [he1, renE_eq]
    have n1 := nodesL_get hik
    have n2 := Ex.nodes_eq kids[i]
    exact h1.mono (by omega)

theorem flatten_set {α : Type} (L : List (List α)) (i : Nat) (y : List α) (h : i < L.length) : ∃ O : List α, L.flatten.Perm (L[i] ++ O) ∧ (L.set i y).flatten.Perm (y ++ O) := by
  induction L generalizing i with
  | nil => simp at h
  | cons l r ih =>
    cases i with
    | zero => exact ⟨r.flatten, by simp, by simp⟩
    | succ i =>
      obtain ⟨O, h1, h2⟩ := ih i (by simpa using h)
      refine ⟨l ++ O, ?_, ?_⟩
      · rw [List.flatten_cons, List.getElem_cons_succ]
        exact ((List.Perm.append_left l h1).trans (by rw [← List.append_assoc, ← List.append_assoc]; exact List.Perm.append_right _ List.perm_append_comm))
      · rw [List.set_cons_succ, List.flatten_cons]
        exact ((List.Perm.append_left l h2).trans (by rw [← List.append_assoc, ← List.append_assoc]; exact List.Perm.append_right _ List.perm_append_comm))

theorem flat_disjT {bss : List (List Nat)} (h : bss.flatten.Nodup) {i j : Nat} (hi : i < bss.length) (hj : j < bss.length) (hne : i ≠ j) {x : Nat} (hx : x ∈ bss[i]) : x ∉ bss[j] := by
  induction bss generalizing i j with
  | nil => simp at hi
  | cons l r ih =>
    rw [List.flatten_cons, List.nodup_append] at h
    obtain ⟨h1, h2, h3⟩ := h
    intro hxj
    cases i with
    | zero =>
      cases j with
      | zero => exact hne rfl
      | succ j => exact h3 x (by simpa using hx) x (List.mem_flatten.2 ⟨_, List.getElem_mem (by simpa using hj), by simpa using hxj⟩) rfl
    | succ i =>
      cases j with
      | zero => exact h3 x (by simpa using hxj) x (List.mem_flatten.2 ⟨_, List.getElem_mem (by simpa using hi), by simpa using hx⟩) rfl
      | succ j => exact ih h2 (by simpa using hi) (by simpa using hj) (by omega) (by simpa using hx) (by simpa using hxj)

/-- One list that waited is done: its own kids' lists wait now. -/
theorem PT.fill {f t : ByteArray} {w0 W W' : World} {a : Option Addr} {c : Nat} {kids : List Ex} {bs : List Nat} {ps : List Pn} (h : PT f t w0 W a c kids bs ps) (p : Pn) (nb : List Nat) (np : List Pn)
    (hnew : PT f t w0 W' (some ⟨p.b, 0, none⟩) p.c (p.es.map Es.e) (p.b :: nb) np) :
    bs.Nodup → (∀ g ∈ bs, g ≠ p.b → W'.heap[g]? = W.heap[g]?) → ∀ r, ps.Perm (p :: r) → ∃ bs' ps', PT f t w0 W' a c kids bs' ps' ∧ bs'.Perm (nb ++ bs) ∧ ps'.Perm (np ++ r) := by
  induction h with
  | nil => intro _ _ r hr; exact absurd hr.length_eq (by simp)
  | wait q hp hc own hk =>
    intro _ _ r hr
    have hr0 : r = [] := by have := hr.length_eq; simp at this; exact this
    subst hr0
    have hq : q = p := by simpa using hr.singleton_eq
    subst hq
    exact ⟨_, _, hnew, List.perm_append_comm (l₁ := [q.b]) (l₂ := nb), by simp⟩
  | done b c kids es bss pss hp hc hl hlb hlp own he hfit hk ih =>
    intro hnd hag r hr
    obtain ⟨hb1, hb2⟩ := List.nodup_cons.1 hnd
    have hpm : p ∈ pss.flatten := hr.mem_iff.2 (List.mem_cons_self ..)
    obtain ⟨l, hl', hpl⟩ := List.mem_flatten.1 hpm
    obtain ⟨i, hi, rfl⟩ := List.mem_iff_getElem.1 hl'
    obtain ⟨s, t', hst⟩ := List.append_of_mem hpl
    have hperm : pss[i].Perm (p :: (s ++ t')) := by rw [hst]; exact List.perm_middle
    have hie : i < es.length := by omega
    have hik : i < kids.length := by omega
    have hib : i < bss.length := by omega
    have hpb : p.b ∈ bss[i] := (hk i hie hik hib hi).mem p hpl
    have hndi : bss[i].Nodup := (List.pairwise_flatten.1 hb2).1 _ (List.getElem_mem hib)
    obtain ⟨bi, pi, hT, hBp, hPp⟩ := ih i hie hik hib hi hndi (fun g hg hne => hag g (List.mem_cons_of_mem _ (List.mem_flatten.2 ⟨_, List.getElem_mem hib, hg⟩)) hne) (s ++ t') hperm
    obtain ⟨O1, o1, o2⟩ := flatten_set bss i bi hib
    obtain ⟨O2, o3, o4⟩ := flatten_set pss i pi hi
    have hbne : b ≠ p.b := fun e => hb1 (by rw [e]; exact List.mem_flatten.2 ⟨_, List.getElem_mem hib, hpb⟩)
    refine ⟨b :: (bss.set i bi).flatten, (pss.set i pi).flatten, ?_, ?_, ?_⟩
    · refine .done b c kids es (bss.set i bi) (pss.set i pi) hp hc hl (by simpa using hlb) (by simpa using hlp) (ownsRow_block own fun g hg => by cases hg; exact hag b (List.mem_cons_self ..) hbne) he hfit fun j h0 h1 h2 h3 => ?_
      by_cases hji : j = i
      · subst hji
        rw [List.getElem_set_self, List.getElem_set_self]
        exact hT
      · have h2' : j < bss.length := by simpa using h2
        rw [List.getElem_set_ne (fun e => hji e.symm), List.getElem_set_ne (fun e => hji e.symm)]
        refine (hk j h0 h1 h2' (by simpa using h3)).agree fun g hg => hag g (List.mem_cons_of_mem _ (List.mem_flatten.2 ⟨_, List.getElem_mem h2', hg⟩)) fun e => ?_
        exact flat_disjT hb2 h2' hib hji hg (by rw [e]; exact hpb)
    · have h1 : (bss.set i bi).flatten.Perm (nb ++ bss.flatten) := by
        refine o2.trans ?_
        refine (List.Perm.append_right O1 hBp).trans ?_
        rw [List.append_assoc]
        exact List.Perm.append_left nb o1.symm
      refine (List.Perm.cons b h1).trans ?_
      exact List.perm_middle.symm
    · refine o4.trans ?_
      refine (List.Perm.append_right O2 hPp).trans ?_
      rw [List.append_assoc]
      refine List.Perm.append_left np ?_
      have h2 : (p :: ((s ++ t') ++ O2)).Perm (p :: r) := by
        refine List.Perm.trans ?_ (o3.symm.trans hr)
        exact (List.Perm.append_right O2 hperm).symm
      exact h2.cons_inv

end Go.Proofs.Ytdggcgipchijjaa
