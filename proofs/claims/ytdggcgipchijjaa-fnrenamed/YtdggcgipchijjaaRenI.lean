/- impl.Renamed, its invariants: the lists that wait, the list that is being done. -/
import Derived.Test.YtdggcgipchijjaaRenT
import Derived.Test.YtdggcgipchijjaaRenN
namespace Go.Proofs.Ytdggcgipchijjaa
open Go.RowKit

def sumN (st : List Pn) : Nat := (st.map fun p => nodesL (p.es.map Es.e)).sum
theorem sumN_append (a b : List Pn) : sumN (a ++ b) = sumN a + sumN b := by simp [sumN]
theorem sumN_one (p : Pn) : sumN [p] = nodesL (p.es.map Es.e) := by simp [sumN]

/-- While nothing is being done. -/
structure RInv (f t : ByteArray) (w : World) (e : Ex) (st : List Pn) (v : Value) (bs : List Nat) (W : World) : Prop where
  tree : ∃ ps, PT f t w W (some ⟨w.heap.size + 2, 0, none⟩) 1 [e] bs ps ∧ ps.Perm st
  nodup : bs.Nodup
  range : ∀ g ∈ bs, w.heap.size + 2 ≤ g
  row : W.ownsRow (w.heap.size + 3) 24 1 v st.length (st.map Pn.v)
  apart : ∀ g, v.ownBlock = some g → g ∉ bs
  res : ∃ v0 v1 v2 v3, W.heap[w.heap.size + 1]? = some (.cells #[v0, v1, v2, v3] 26 (0, 0))
  bel : Below w.heap.size w W
  size : w.heap.size + 3 < W.heap.size

/-- While the list p is being done. -/
structure IInv (f t : ByteArray) (w W0 : World) (p : Pn) (qs : List Pn) (bs : List Nat) (cs : List Es) (bss : List (List Nat)) (pss : List (List Pn)) (sk : List Pn) (v : Value) (W : World) : Prop where
  lc : cs.length ≤ p.es.length
  lb : bss.length = cs.length
  lp : pss.length = cs.length
  ce : ∀ (j : Nat) (h : j < cs.length) (h' : j < p.es.length), cs[j].e = renE f t p.es[j].e
  kid : ∀ (j : Nat) (h : j < cs.length) (h' : j < p.es.length) (h2 : j < bss.length) (h3 : j < pss.length), PT f t w W cs[j].a cs[j].c p.es[j].e.kids bss[j] pss[j]
  rowb : W.ownsRow p.b 26 4 (.slice (some ⟨p.b, 0, none⟩) p.es.length p.c) p.es.length (ecells (cs ++ p.es.drop cs.length))
  nd : bss.flatten.Nodup
  rng : ∀ g ∈ bss.flatten, W0.heap.size ≤ g ∧ g < W.heap.size
  row : W.ownsRow (w.heap.size + 3) 24 1 v (qs.length + sk.length) ((qs ++ sk).map Pn.v)
  apart : ∀ g, v.ownBlock = some g → g ∉ bss.flatten ∧ g ∉ bs
  agree : ∀ g ∈ bs, g ≠ p.b → W.heap[g]? = W0.heap[g]?
  res : ∃ v0 v1 v2 v3, W.heap[w.heap.size + 1]? = some (.cells #[v0, v1, v2, v3] 26 (0, 0))
  bel : Below w.heap.size w W
  size : w.heap.size + 3 < W.heap.size ∧ W0.heap.size ≤ W.heap.size
  pb : p.b ∈ bs ∧ w.heap.size + 2 ≤ p.b ∧ p.b < W0.heap.size
  bsl : ∀ g ∈ bs, g < W0.heap.size ∧ w.heap.size + 2 ≤ g

theorem IInv.below {f t : ByteArray} {w W0 W W' : World} {p : Pn} {qs : List Pn} {bs : List Nat} {cs : List Es} {bss : List (List Nat)} {pss : List (List Pn)} {sk : List Pn} {v : Value} (h : IInv f t w W0 p qs bs cs bss pss sk v W) (hb : Below W.heap.size W W') : IInv f t w W0 p qs bs cs bss pss sk v W' := by
  have hs := h.size
  refine ⟨h.lc, h.lb, h.lp, h.ce, fun j h0 h1 h2 h3 => ?_, ?_, h.nd, fun g hg => ?_, ?_, h.apart, fun g hg hne => ?_, ?_, h.bel.trans (hb.mono h.bel.size), ⟨Nat.lt_of_lt_of_le hs.1 hb.size, Nat.le_trans hs.2 hb.size⟩, h.pb, h.bsl⟩
  · have hk := h.kid j h0 h1 h2 h3
    exact hk.agree fun g hg => hb.block g (hk.lt g hg)
  · exact ownsRow_block h.rowb fun g hg => hb.block g (h.rowb.lt g hg).2
  · have := h.rng g hg; exact ⟨this.1, Nat.lt_of_lt_of_le this.2 hb.size⟩
  · exact ownsRow_block h.row fun g hg => hb.block g (h.row.lt g hg).2
  · rw [hb.block g (by have := (h.bsl g hg).1; omega)]; exact h.agree g hg hne
  · obtain ⟨v0, v1, v2, v3, h4⟩ := h.res
    exact ⟨v0, v1, v2, v3, by rw [hb.block _ (by omega)]; exact h4⟩

theorem ownsRow_self {w : World} {B : Nat} {T : TypeId} {size g n c : Nat} {xs : List Value} (h : w.ownsRow B T size (.slice (some ⟨g, 0, none⟩) n c) n xs) : w.ownsRow g T size (.slice (some ⟨g, 0, none⟩) n c) n xs ∧ n ≤ c ∧ c ≤ maxLen := by
  have h1 := h.1
  rcases h.2 with ⟨h0, _⟩ | ⟨g', cap, cur, hv, hB, hg, hnc, hcm, r⟩
  · cases h0
  · cases hv
    exact ⟨⟨h1, .inr ⟨g, c, cur, rfl, Nat.le_refl _, hg, hnc, hcm, r⟩⟩, hnc, hcm⟩

/-- The list of a node's kids, as it waits. -/
theorem pt_new {f t : ByteArray} {w W : World} {B c' : Nat} {a' : Option Addr} {es2 : List Es} (hown : W.ownsRow B 26 4 (.slice a' es2.length c') es2.length (ecells es2)) (hnil : es2 = [] → a' = none ∧ c' = 0) (hk : ∀ x ∈ es2, x.e.fit ∧ ∃ D, KidsAt w (D + 1) x.a x.c x.e.kids) :
    ∃ nb np, PT f t w W a' c' (es2.map Es.e) nb np ∧ nb.Nodup ∧ (∀ g ∈ nb, B ≤ g ∧ g < W.heap.size) ∧ sumN np = nodesL (es2.map Es.e) ∧ ((es2 = [] ∧ np = []) ∨ ∃ g, 0 < es2.length ∧ a' = some ⟨g, 0, none⟩ ∧ np = [⟨g, c', es2⟩]) := by
  by_cases h0 : es2 = []
  · obtain ⟨rfl, rfl⟩ := hnil h0
    subst h0
    exact ⟨[], [], .nil, by simp, by simp, by simp [sumN, nodesL], .inl ⟨rfl, rfl⟩⟩
  · have hp : 0 < es2.length := List.length_pos_iff.2 h0
    obtain ⟨g, rfl⟩ : ∃ g, a' = some ⟨g, 0, none⟩ := by
      rcases hown.2 with ⟨_, h1⟩ | ⟨g, cap, cur, hv, _⟩
      · omega
      · cases hv; exact ⟨g, rfl⟩
    obtain ⟨h1, h2, h3⟩ := ownsRow_self hown
    have hl := hown.lt g rfl
    exact ⟨[g], [⟨g, c', es2⟩], .wait ⟨g, c', es2⟩ hp ⟨h3, h2⟩ h1 hk, by simp, fun x hx => by rw [List.mem_singleton] at hx; subst hx; exact hl, by simp [sumN], .inr ⟨g, hp, rfl, rfl⟩⟩

theorem ecells_mid (cs ds : List Es) (k : Nat) (hk : k = cs.length) (hd : 0 < ds.length) (x : Es) : ((((ecells (cs ++ ds)).set (k * 4) x.k).set (k * 4 + 1) x.t).set (k * 4 + 2) x.n).set (k * 4 + 3) x.s = ecells (cs ++ [x] ++ ds.drop 1) := by
  rw [ecells_set _ k x (by simp; omega)]
  subst hk
  rw [List.set_append_right _ _ (Nat.le_refl _), Nat.sub_self]
  cases ds with
  | nil => simp at hd
  | cons y r => simp

/-- One node more is done. -/
theorem IInv.node {f t : ByteArray} {w W0 W w2 w3 : World} {p : Pn} {qs : List Pn} {bs : List Nat} {cs : List Es} {bss : List (List Nat)} {pss : List (List Pn)} {sk : List Pn} {v : Value} (h : IInv f t w W0 p qs bs cs bss pss sk v W) (hlt : cs.length < p.es.length) (hb2 : Below W.heap.size W w2) {a' : Option Addr} {c' : Nat} {nb : List Nat} {np : List Pn}
    (hT : PT f t w w2 a' c' p.es[cs.length].e.kids nb np) (hnd : nb.Nodup) (hnb : ∀ g ∈ nb, W.heap.size ≤ g ∧ g < w2.heap.size) {k : Nat} (hk : k = cs.length) {x : Es} (hx : x = ⟨renE f t p.es[cs.length].e, a', c'⟩) {u0 u1 u2 u3 : Value} (hu : u0 = x.k ∧ u1 = x.t ∧ u2 = x.n ∧ u3 = x.s)
    (h3 : w3 = (((w2.setCell ⟨p.b, k * 4, none⟩ u0).setCell ⟨p.b, k * 4 + 1, none⟩ u1).setCell ⟨p.b, k * 4 + 2, none⟩ u2).setCell ⟨p.b, k * 4 + 3, none⟩ u3) :
    IInv f t w W0 p qs bs (cs ++ [x]) (bss ++ [nb]) (pss ++ [np]) sk v w3 := by
  obtain ⟨rfl, rfl, rfl, rfl⟩ := hu
  have g := h.below hb2
  have hs := h.size
  have hpb := h.pb
  have hlb := h.lb
  have hlp := h.lp
  have hs2 := hb2.size
  have hsz : w3.heap.size = w2.heap.size := by subst h3; simp [World.setCell]
  have hbl : ∀ b, b ≠ p.b → w3.heap[b]? = w2.heap[b]? := by
    intro b hb
    subst h3
    rw [Below.heap_setCell _ _ _ _ hb, Below.heap_setCell _ _ _ _ hb, Below.heap_setCell _ _ _ _ hb, Below.heap_setCell _ _ _ _ hb]
  have hll : (cs ++ [x]).length = cs.length + 1 := by simp
  have hfb : (bss ++ [nb]).flatten = bss.flatten ++ nb := by simp
  refine ⟨by omega, by simp [hlb], by simp [hlp], fun j h0 h1 => ?_, fun j h0 h1 h2 h3' => ?_, ?_, ?_, fun b hb => ?_, ?_, fun b hb => ?_, fun b hb hne => ?_, ?_, ?_, ⟨by omega, by omega⟩, hpb, h.bsl⟩
  · by_cases hj : j < cs.length
    · rw [List.getElem_append_left hj]; exact h.ce j hj h1
    · have : j = cs.length := by omega
      subst this
      rw [List.getElem_append_right (Nat.le_refl _)]
      simp only [Nat.sub_self, List.getElem_cons_zero]
      rw [hx]
  · by_cases hj : j < cs.length
    · have hjb : j < bss.length := by omega
      have hjp : j < pss.length := by omega
      rw [List.getElem_append_left hj, List.getElem_append_left hjb, List.getElem_append_left hjp]
      refine (g.kid j hj h1 hjb hjp).agree fun b hb => hbl b fun e => ?_
      have := (g.rng b (List.mem_flatten.2 ⟨_, List.getElem_mem hjb, hb⟩)).1
      omega
    · have : j = cs.length := by omega
      subst this
      rw [List.getElem_append_right (Nat.le_refl _), List.getElem_append_right (by omega), List.getElem_append_right (by omega)]
      simp only [Nat.sub_self, hlb, hlp, List.getElem_cons_zero]
      rw [hx]
      exact hT.agree fun b hb => hbl b fun e => by have := (hnb b hb).1; omega
  · have R3 := ((((g.rowb.stored (k * 4) x.k).1.stored (k * 4 + 1) x.t).1.stored (k * 4 + 2) x.n).1.stored (k * 4 + 3) x.s).1
    rw [← h3, ecells_mid cs (p.es.drop cs.length) k hk (by simp; omega) x, List.drop_drop] at R3
    rw [hll]
    exact R3
  · rw [hfb, List.nodup_append]
    refine ⟨h.nd, hnd, fun y hy z hz e => ?_⟩
    have := (h.rng y hy).2
    have := (hnb z hz).1
    omega
  · rw [hfb] at hb
    rcases List.mem_append.1 hb with hb | hb
    · have := h.rng b hb; omega
    · have := hnb b hb; omega
  · exact ownsRow_block g.row fun q hq => hbl q fun e => by have := (h.apart q hq).2; rw [e] at this; exact this hpb.1
  · rw [hfb]
    have h1 := h.apart b hb
    have h2 := (h.row.lt b hb).2
    exact ⟨fun hm => by
      rcases List.mem_append.1 hm with hm | hm
      · exact h1.1 hm
      · have := (hnb b hm).1; omega, h1.2⟩
  · rw [hbl b hne]; exact g.agree b hb hne
  · obtain ⟨v0, v1, v2, v3, h4⟩ := g.res
    exact ⟨v0, v1, v2, v3, by rw [hbl _ (by omega)]; exact h4⟩
  · subst h3
    exact (((g.bel.setCell (by show w.heap.size ≤ p.b; omega) _).setCell (by show w.heap.size ≤ p.b; omega) _).setCell (by show w.heap.size ≤ p.b; omega) _).setCell (by show w.heap.size ≤ p.b; omega) _

/-- One list more waits. -/
theorem IInv.push {f t : ByteArray} {w W0 W W2 : World} {p : Pn} {qs : List Pn} {bs : List Nat} {cs : List Es} {bss : List (List Nat)} {pss : List (List Pn)} {sk : List Pn} {v v' : Value} (h : IInv f t w W0 p qs bs cs bss pss sk v W) (q : Pn)
    (hrow : W2.ownsRow (w.heap.size + 3) 24 1 v' (qs.length + sk.length + 1) ((qs ++ sk).map Pn.v ++ [q.v])) (hg : W.grownBy W2 v.ownBlock) (hat : v'.ownBlock = v.ownBlock ∨ v'.ownBlock = some W.heap.size) : IInv f t w W0 p qs bs cs bss pss (sk ++ [q]) v' W2 := by
  have hs := h.size
  have hpb := h.pb
  have hne : ∀ b, b ∈ bss.flatten ∨ b ∈ bs → some b ≠ v.ownBlock := fun b hb e => by
    have := h.apart b e.symm
    rcases hb with hb | hb
    · exact this.1 hb
    · exact this.2 hb
  have hlo : ∀ b, v.ownBlock = some b → w.heap.size + 3 ≤ b ∧ b < W.heap.size := fun b hb => h.row.lt b hb
  have hgs := hg.size
  refine ⟨h.lc, h.lb, h.lp, h.ce, fun j h0 h1 h2 h3 => ?_, ?_, h.nd, fun b hb => ?_, ?_, fun b hb => ?_, fun b hb hn => ?_, ?_, h.bel.grown hg h.bel.size (fun b hb => by have := (hlo b hb).1; omega), ⟨by omega, by omega⟩, hpb, h.bsl⟩
  · have hk := h.kid j h0 h1 h2 h3
    exact hk.agree fun b hb => hg.block b (hk.lt b hb) (hne b (.inl (List.mem_flatten.2 ⟨_, List.getElem_mem h2, hb⟩)))
  · exact ownsRow_block h.rowb fun b hb => by cases hb; exact hg.block _ (ownsRow_lt h.rowb) (hne _ (.inr hpb.1))
  · have := h.rng b hb; exact ⟨this.1, by omega⟩
  · have e1 : qs.length + (sk ++ [q]).length = qs.length + sk.length + 1 := by simp; omega
    have e2 : (qs ++ (sk ++ [q])).map Pn.v = (qs ++ sk).map Pn.v ++ [q.v] := by simp
    rw [e1, e2]
    exact hrow
  · rcases hat with e | e
    · exact h.apart b (e.symm.trans hb)
    · rw [e] at hb
      have := Option.some.inj hb
      exact ⟨fun hm => by have := (h.rng b hm).2; omega, fun hm => by have := (h.bsl b hm).1; omega⟩
  · rw [hg.block b (by have := (h.bsl b hb).1; omega) (hne b (.inr hb))]; exact h.agree b hb hn
  · obtain ⟨v0, v1, v2, v3, h4⟩ := h.res
    exact ⟨v0, v1, v2, v3, by rw [hg.block _ (by omega) (fun e => by have := (hlo _ e.symm).1; omega)]; exact h4⟩

theorem renE_fit {f t : ByteArray} {e : Ex} (h : e.fit) (ht : t.size ≤ maxLen) : (renE f t e).fit := by
  rw [renE_eq]
  exact ⟨rtx_size ht h.1, h.2.1, h.2.2⟩

/-- The list is done. -/
theorem IInv.end {f t : ByteArray} {w W0 W : World} {e : Ex} {p : Pn} {qs : List Pn} {bs : List Nat} {cs : List Es} {bss : List (List Nat)} {pss : List (List Pn)} {v v0 : Value} (h : IInv f t w W0 p qs bs cs bss pss pss.flatten v W) (hR : RInv f t w e (qs ++ [p]) v0 bs W0) (hl : cs.length = p.es.length) (ht : t.size ≤ maxLen) :
    ∃ bs', RInv f t w e (qs ++ pss.flatten) v bs' W := by
  obtain ⟨ps, hT, hP⟩ := hR.tree
  have hPp : ps.Perm (p :: qs) := hP.trans (List.perm_append_comm (l₁ := qs) (l₂ := [p]))
  obtain ⟨hp, hc, _, hk, _⟩ := hT.waits p (hPp.mem_iff.2 (List.mem_cons_self ..))
  have hlb := h.lb
  have hlp := h.lp
  have hrb := h.rowb
  rw [hl, List.drop_length, List.append_nil] at hrb
  have he : cs.map Es.e = renL f t (p.es.map Es.e) := by
    rw [renL_map, List.map_map]
    refine List.ext_getElem (by simp [hl]) fun i h1 h2 => ?_
    simp only [List.getElem_map, Function.comp]
    exact h.ce i (by simpa using h1) (by simpa using h2)
  have hnew : PT f t w W (some ⟨p.b, 0, none⟩) p.c (p.es.map Es.e) (p.b :: bss.flatten) pss.flatten := by
    refine .done p.b p.c (p.es.map Es.e) cs bss pss (by omega) ⟨hc.1, by omega⟩ (by simp [hl]) hlb hlp (by rw [hl]; exact hrb) he (fun x hx => ?_) fun i h0 h1 h2 h3 => ?_
    · obtain ⟨i, hi, rfl⟩ := List.mem_iff_getElem.1 hx
      rw [h.ce i hi (by omega)]
      exact renE_fit (hk _ (List.getElem_mem _)).1 ht
    · have := h.kid i h0 (by omega) h2 h3
      simpa using this
  obtain ⟨bs', ps', hT', hB', hP'⟩ := hT.fill p bss.flatten pss.flatten hnew hR.nodup (fun g hg hne => h.agree g hg hne) qs hPp
  refine ⟨bs', ⟨ps', hT', hP'.trans List.perm_append_comm⟩, ?_, fun g hg => ?_, ?_, fun g hg hm => ?_, h.res, h.bel, h.size.1⟩
  · refine hB'.nodup_iff.2 (List.nodup_append.2 ⟨h.nd, hR.nodup, fun x hx y hy e => ?_⟩)
    have := (h.rng x hx).1
    have := (h.bsl y hy).1
    omega
  · rcases List.mem_append.1 (hB'.mem_iff.1 hg) with hg | hg
    · have := (h.rng g hg).1; have := h.pb; omega
    · exact (h.bsl g hg).2
  · have := h.row
    simpa using this
  · rcases List.mem_append.1 (hB'.mem_iff.1 hm) with hm | hm
    · exact (h.apart g hg).1 hm
    · exact (h.apart g hg).2 hm

end Go.Proofs.Ytdggcgipchijjaa
