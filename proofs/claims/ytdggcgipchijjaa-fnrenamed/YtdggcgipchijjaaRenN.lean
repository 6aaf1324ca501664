/- impl.renamedNode: one node, its kids copied. -/
import Derived.Test.YtdggcgipchijjaaRenP
import Derived.Test.YtdggcgipchijjaaColsI
import Derived.Test.YtdggcgipchijjaaExBoxes
namespace Go.Proofs.Ytdggcgipchijjaa
open Go.RowKit

/-- The boxes of one call: the node's own, and that of the answer. -/
def NBx (w : World) (e : Ex) (a : Option Addr) (c : Nat) (W : World) : Prop :=
  Box4 W w.heap.size e a c ∧ (∃ v0 v1 v2 v3, W.heap[w.heap.size + 1]? = some (.cells #[v0, v1, v2, v3] 26 (0, 0))) ∧ Below w.heap.size w W ∧ w.heap.size + 2 ≤ W.heap.size

theorem cells4 {W : World} {R : Nat} {v0 v1 v2 v3 : Value} {T : TypeId} (h : W.heap[R]? = some (.cells #[v0, v1, v2, v3] T (0, 0))) :
    W.cell? ⟨R, 0, none⟩ = some v0 ∧ W.cell? ⟨R, 1, none⟩ = some v1 ∧ W.cell? ⟨R, 2, none⟩ = some v2 ∧ W.cell? ⟨R, 3, none⟩ = some v3 ∧ ∀ o, W.frozen? ⟨R, o, none⟩ = false := by
  refine ⟨by rw [cell_of_row _ _ _ _ _ _ h]; rfl, by rw [cell_of_row _ _ _ _ _ _ h]; rfl, by rw [cell_of_row _ _ _ _ _ _ h]; rfl, by rw [cell_of_row _ _ _ _ _ _ h]; rfl, fun o => ?_⟩
  unfold World.frozen?
  rw [h]
  simp

theorem NBx.below {w W W' : World} {e : Ex} {a : Option Addr} {c : Nat} (h : NBx w e a c W) (hb : Below W.heap.size W W') : NBx w e a c W' := by
  obtain ⟨h1, ⟨v0, v1, v2, v3, h2⟩, h3, h4⟩ := h
  exact ⟨h1.below hb, ⟨v0, v1, v2, v3, by rw [hb.block _ (by omega)]; exact h2⟩, h3.trans (hb.mono h3.size), Nat.le_trans h4 hb.size⟩

def CellsN (w : World) (e : Ex) (a : Option Addr) (c : Nat) (w' : World) : Prop :=
  (w'.cell? ⟨w.heap.size, 0, none⟩ = some (.int .i64 e.kind) ∧ w'.cell? ⟨w.heap.size, 1, none⟩ = some (.string e.text) ∧ w'.cell? ⟨w.heap.size, 2, none⟩ = some (.int .i64 e.num) ∧ w'.cell? ⟨w.heap.size, 3, none⟩ = some (.slice a e.kids.length c)) ∧ Hid (NBx w e a c w')

theorem nbx_below {w W W' : World} {e : Ex} {a : Option Addr} {c : Nat} (h : NBx w e a c W) (hb : Below W.heap.size W W') : (W'.cell? ⟨w.heap.size, 0, none⟩ = some (.int .i64 e.kind) ∧ W'.cell? ⟨w.heap.size, 1, none⟩ = some (.string e.text) ∧ W'.cell? ⟨w.heap.size, 2, none⟩ = some (.int .i64 e.num) ∧ W'.cell? ⟨w.heap.size, 3, none⟩ = some (.slice a e.kids.length c)) ∧ Hid (NBx w e a c W') :=
  ⟨(h.below hb).1.2, h.below hb⟩

theorem nbx_grown {w W W' : World} {e : Ex} {a : Option Addr} {c : Nat} (h : NBx w e a c W) (hg : W.grownBy W' none) : (W'.cell? ⟨w.heap.size, 0, none⟩ = some (.int .i64 e.kind) ∧ W'.cell? ⟨w.heap.size, 1, none⟩ = some (.string e.text) ∧ W'.cell? ⟨w.heap.size, 2, none⟩ = some (.int .i64 e.num) ∧ W'.cell? ⟨w.heap.size, 3, none⟩ = some (.slice a e.kids.length c)) ∧ Hid (NBx w e a c W') :=
  nbx_below h ⟨hg.os, hg.tape, hg.output, hg.size, fun k hk => hg.block k hk (by simp)⟩

theorem nbx_new (w : World) (e : Ex) (a : Option Addr) (c : Nat) : NBx w e a c ((w.alloc (.cells #[.int .i64 e.kind, .string e.text, .int .i64 e.num, .slice a e.kids.length c] 26)).alloc (.cells #[.int .i64 0, .string ⟨#[]⟩, .int .i64 0, .slice none 0 0] 26)) := by
  refine ⟨(box4_new w 26 e a c).below ((Below.refl _ _).alloc (Nat.le_refl _) _), ⟨.int .i64 0, .string ⟨#[]⟩, .int .i64 0, .slice none 0 0, ?_⟩, ((Below.refl _ _).alloc (Nat.le_refl _) _).alloc (by simp) _, by simp⟩
  have := heap_alloc_new (w.alloc (.cells #[.int .i64 e.kind, .string e.text, .int .i64 e.num, .slice a e.kids.length c] 26)) (.cells #[.int .i64 0, .string ⟨#[]⟩, .int .i64 0, .slice none 0 0] 26)
  simpa using this

theorem heap_set0 {W : World} {R i : Nat} {cs : Array Value} {T : TypeId} {fr : Nat × Nat} {u : Value} (h : W.heap[R]? = some (.cells cs T fr)) : (W.setCell ⟨R, i, none⟩ u).heap[R]? = some (.cells (cs.setIfInBounds i u) T fr) := by
  show (W.heap.modify R _)[R]? = _
  rw [Array.getElem?_modify, if_pos rfl, h]
  rfl

theorem nbx_store {w W W' : World} {e : Ex} {a : Option Addr} {c : Nat} (h : NBx w e a c W) {u0 u1 u2 u3 : Value}
    (hW : W' = (((W.setCell ⟨w.heap.size + 1, 0, none⟩ u0).setCell ⟨w.heap.size + 1, 1, none⟩ u1).setCell ⟨w.heap.size + 1, 2, none⟩ u2).setCell ⟨w.heap.size + 1, 3, none⟩ u3) :
    (W'.cell? ⟨w.heap.size, 0, none⟩ = some (.int .i64 e.kind) ∧ W'.cell? ⟨w.heap.size, 1, none⟩ = some (.string e.text) ∧ W'.cell? ⟨w.heap.size, 2, none⟩ = some (.int .i64 e.num) ∧ W'.cell? ⟨w.heap.size, 3, none⟩ = some (.slice a e.kids.length c)) ∧ Hid (NBx w e a c W') := by
  obtain ⟨⟨h0, h1⟩, ⟨v0, v1, v2, v3, h2⟩, h3, h4⟩ := h
  have hc : ∀ o, W'.cell? ⟨w.heap.size, o, none⟩ = W.cell? ⟨w.heap.size, o, none⟩ := by
    intro o
    subst hW
    rw [World.cell?_setCell_other _ _ _ _ (by simp), World.cell?_setCell_other _ _ _ _ (by simp), World.cell?_setCell_other _ _ _ _ (by simp), World.cell?_setCell_other _ _ _ _ (by simp)]
  have hsz : W'.heap.size = W.heap.size := by subst hW; simp [World.setCell]
  have hb : Box4 W' w.heap.size e a c := ⟨by omega, (hc 0).trans h1.1, (hc 1).trans h1.2.1, (hc 2).trans h1.2.2.1, (hc 3).trans h1.2.2.2⟩
  refine ⟨hb.2, hb, ⟨u0, u1, u2, u3, ?_⟩, ?_, by omega⟩
  · subst hW
    rw [heap_set0 (heap_set0 (heap_set0 (heap_set0 h2)))]
    rfl
  · subst hW
    exact (((h3.setCell (by simp) _).setCell (by simp) _).setCell (by simp) _).setCell (by simp) _

/-- What one node becomes. -/
def NewNode (w : World) (es : List Es) (k : Int) (t : ByteArray) (n : Int) (x : Ending) (w' : World) : Prop :=
  ∃ a' c', x = .returned (.agg #[.int .i64 k, .string t, .int .i64 n, .slice a' es.length c']) ∧ w'.ownsRow w.heap.size 26 4 (.slice a' es.length c') es.length (ecells es) ∧ (es = [] → a' = none ∧ c' = 0) ∧ Below w.heap.size w w'

theorem CopyK.below {B : Nat} {es : List Es} {a' : Option Addr} {c' : Nat} {w w' : World} (h : CopyK B es a' c' w) (hb : Below w.heap.size w w') : CopyK B es a' c' w' :=
  ⟨ownsRow_block h.1 fun g hg => hb.block g (h.1.lt g hg).2, h.2⟩

theorem nn_end {w Wf W' : World} {e : Ex} {a a3 : Option Addr} {c c3 B : Nat} {es : List Es} {k n : Int} {s : ByteArray} (hN : NBx w e a c Wf) (hC : CopyK B es a3 c3 Wf) (hB : w.heap.size + 2 ≤ B) {u0 u1 u2 u3 : Value}
    (hW : W' = (((Wf.setCell ⟨w.heap.size + 1, 0, none⟩ u0).setCell ⟨w.heap.size + 1, 1, none⟩ u1).setCell ⟨w.heap.size + 1, 2, none⟩ u2).setCell ⟨w.heap.size + 1, 3, none⟩ u3) :
    NewNode w es k s n (.returned (.agg #[.int .i64 k, .string s, .int .i64 n, .slice a3 es.length c3])) W' := by
  refine ⟨a3, c3, rfl, ?_, hC.2, ?_⟩
  · have hb : ∀ g, (Value.slice a3 es.length c3).ownBlock = some g → W'.heap[g]? = Wf.heap[g]? := by
      intro g hg
      have h1 := (hC.1.lt g hg).1
      have hne : g ≠ w.heap.size + 1 := by omega
      subst hW
      rw [Below.heap_setCell _ _ _ _ hne, Below.heap_setCell _ _ _ _ hne, Below.heap_setCell _ _ _ _ hne, Below.heap_setCell _ _ _ _ hne]
    have h2 := ownsRow_block hC.1 hb
    refine ⟨h2.1, ?_⟩
    rcases h2.2 with h3 | ⟨g, cap, cur, hv, hB', r⟩
    · exact .inl h3
    · exact .inr ⟨g, cap, cur, hv, by omega, r⟩
  · subst hW
    exact (((hN.2.2.1.setCell (by simp) _).setCell (by simp) _).setCell (by simp) _).setCell (by simp) _

set_option maxRecDepth 100000 in
set_option maxHeartbeats 4000000 in
theorem implRenNode (f t : ByteArray) (e : Ex) (a : Option Addr) (c d : Nat) (w : World) (hk : KidsAt w (d + 1) a c e.kids) (hwt : e.wt ≤ 1048576) (ht : t.size ≤ 1048576) (es : List Es) (hes : es.map Es.e = e.kids)
    (hcs : 0 < e.kids.length → ∃ b off, a = some ⟨b, off, none⟩ ∧ b < w.heap.size ∧ ∀ (j : Nat) (u : Value), (ecells es)[j]? = some u → w.cell? ⟨b, off + j, none⟩ = some u) :
    Calls Try.prog 37 #[.agg #[.int .i64 e.kind, .string e.text, .int .i64 e.num, .slice a e.kids.length c], .string f, .string t] w (NewNode w es e.kind (rtx f t e.kind e.text) e.num) := by
  have HW := Ex.wt_eq e
  have hlen : e.kids.length = es.length := by rw [← hes]; simp
  have HL := Lib.hid hlen
  have HNIL : Hid (a = none → es = [] ∧ c = 0) := by
    intro h
    refine ⟨?_, hk.2.2.1 h⟩
    have h1 := hk.2.2.1 h
    have h2 := hk.1
    exact List.eq_nil_of_length_eq_zero (by omega)
  have HSP : Hid (∀ ad, a = some ad → es ≠ [] → ∃ b off, ad = ⟨b, off, none⟩) := by
    intro ad hd hne
    have hp : 0 < e.kids.length := by rw [hlen]; exact List.length_pos_iff.2 hne
    obtain ⟨b, off, h1, _⟩ := hcs hp
    rw [hd] at h1
    exact ⟨b, off, Option.some.inj h1⟩
  have HCE : Hid (∀ W, Below w.heap.size w W → ∀ b off, a = some ⟨b, off, none⟩ → ∀ (j : Nat) (u : Value), (ecells es)[j]? = some u → W.cell? ⟨b, off + j, none⟩ = some u) := by
    intro W hb b off hd j u hu
    have hp : 0 < e.kids.length := by
      rw [hlen]
      rcases Nat.eq_zero_or_pos es.length with h | h
      · have : es = [] := List.eq_nil_of_length_eq_zero h
        subst this; simp [ecells] at hu
      · exact h
    obtain ⟨b', off', h1, h2, h3⟩ := hcs hp
    rw [hd] at h1
    cases h1
    exact (hb.cell (p := ⟨b, off + j, none⟩) h2).trans (h3 j u hu)
  have hel : Hid (es.length ≤ 1048576) := by unfold Hid; omega
  have hl := hk.len
  clear hk hes hcs
  by_cases h0 : e.kind = 0
  · have hk0 : (e.kind == 0) = true := by simp [h0]
    by_cases h1 : (e.text.toList == f.toList) = true
    · have HR : Hid (rtx f t e.kind e.text = t) := by unfold Hid rtx; rw [if_pos ⟨hk0, h1⟩]
      have hts : Hid (t.size ≤ 1048576) := ht
      rw [HR.out]
      clear h0 ht hlen HW
      go_enter Try.func37, Try.ntmps37
      have HN0 : Hid (NBx w e a c ((w.alloc (.cells #[.int .i64 e.kind, .string e.text, .int .i64 e.num, .slice a e.kids.length c] 26)).alloc (.cells #[.int .i64 0, .string ⟨#[]⟩, .int .i64 0, .slice none 0 0] 26))) := nbx_new w e a c
      go_wp2_with fail
      have HN1 := Lib.hid (HN0.out.below (below_drewE (Below.refl _ _)))
      generalize (w.alloc (.cells #[.int .i64 e.kind, .string e.text, .int .i64 e.num, .slice a e.kids.length c] 26)).alloc (.cells #[.int .i64 0, .string ⟨#[]⟩, .int .i64 0, .slice none 0 0] 26) = W0 at HN0 HN1 ⊢
      obtain ⟨⟨_, b0, b1, b2, b3⟩, ⟨v0, v1, v2, v3, hR⟩, _⟩ := HN1.out
      obtain ⟨r0, r1, r2, r3, rf⟩ := cells4 hR
      go_region_held_law (fun w' => (w'.cell? ⟨w.heap.size, 0, none⟩ = some (.int .i64 e.kind) ∧ w'.cell? ⟨w.heap.size, 1, none⟩ = some (.string e.text) ∧ w'.cell? ⟨w.heap.size, 2, none⟩ = some (.int .i64 e.num) ∧ w'.cell? ⟨w.heap.size, 3, none⟩ = some (.slice a e.kids.length c)) ∧ Hid (NBx w e a c w')) (first | assumption | exact ⟨HN1.out.1.2, HN1.out⟩ | exact nbx_store (And.right (by assumption : _ ∧ Hid (NBx w e a c _))).out rfl)
        (first
          | (refine stepCopy rfl _ _ rfl rfl a c e.kids.length es rfl HL.out HNIL.out (HCE.out _ (And.right (by assumption : _ ∧ Hid (NBx w e a c _))).out.2.2.1) HSP.out hel.out ?_; intro a3 c3 w3 H3; have hS3 := nbx_grown (And.right (by assumption : _ ∧ Hid (NBx w e a c _))).out H3.out.2; obtain ⟨_, ⟨q0, q1, q2, q3, hR3⟩, _⟩ := hS3.2.out; obtain ⟨s0, s1, s2, s3, sf⟩ := cells4 hR3)
          | (go_simp; go_at_call 34; refine (stringsClone5 t _ hts.out).mono ?_; rintro x w2 ⟨rfl, hb2⟩; have hS2 := nbx_below (And.right (by assumption : _ ∧ Hid (NBx w e a c _))).out hb2; obtain ⟨_, ⟨p0, p1, p2, p3, hR2⟩, _⟩ := hS2.2.out; obtain ⟨t0, t1, t2, t3, tf⟩ := cells4 hR2))
      all_goals
        go_wp2_with fail
        refine bodyPost_ret (v := .agg #[.int .i64 e.kind, .string t, .int .i64 e.num, .slice a3 es.length c3]) (by first | (simp [results, Try.results37, go_sem, s0, s1, s2, s3]; done) | (simp [results, Try.results37, go_sem, t0, t1, t2, t3]; done)) rfl ?_
        first | exact nn_end hS3.2.out H3.out.1 (by have := hS2.2.out.2.2.2; omega) rfl | exact nn_end hS2.2.out (H3.out.1.below hb2) (by have := HN1.out.2.2.2; omega) rfl
    · have h1' : (e.text.toList == f.toList) = false := by simpa using h1
      have HR : Hid (rtx f t e.kind e.text = e.text) := by unfold Hid rtx; rw [if_neg (fun h => h1 h.2)]
      have hts : Hid (e.text.size ≤ 1048576) := by unfold Hid; omega
      rw [HR.out]
      clear h0 ht hlen h1 HW
      go_enter Try.func37, Try.ntmps37
      have HN0 : Hid (NBx w e a c ((w.alloc (.cells #[.int .i64 e.kind, .string e.text, .int .i64 e.num, .slice a e.kids.length c] 26)).alloc (.cells #[.int .i64 0, .string ⟨#[]⟩, .int .i64 0, .slice none 0 0] 26))) := nbx_new w e a c
      go_wp2_with fail
      have HN1 := Lib.hid (HN0.out.below (below_drewE (Below.refl _ _)))
      generalize (w.alloc (.cells #[.int .i64 e.kind, .string e.text, .int .i64 e.num, .slice a e.kids.length c] 26)).alloc (.cells #[.int .i64 0, .string ⟨#[]⟩, .int .i64 0, .slice none 0 0] 26) = W0 at HN0 HN1 ⊢
      obtain ⟨⟨_, b0, b1, b2, b3⟩, ⟨v0, v1, v2, v3, hR⟩, _⟩ := HN1.out
      obtain ⟨r0, r1, r2, r3, rf⟩ := cells4 hR
      go_region_held_law (fun w' => (w'.cell? ⟨w.heap.size, 0, none⟩ = some (.int .i64 e.kind) ∧ w'.cell? ⟨w.heap.size, 1, none⟩ = some (.string e.text) ∧ w'.cell? ⟨w.heap.size, 2, none⟩ = some (.int .i64 e.num) ∧ w'.cell? ⟨w.heap.size, 3, none⟩ = some (.slice a e.kids.length c)) ∧ Hid (NBx w e a c w')) (first | assumption | exact ⟨HN1.out.1.2, HN1.out⟩ | exact nbx_store (And.right (by assumption : _ ∧ Hid (NBx w e a c _))).out rfl)
        (first
          | (refine stepCopy rfl _ _ rfl rfl a c e.kids.length es rfl HL.out HNIL.out (HCE.out _ (And.right (by assumption : _ ∧ Hid (NBx w e a c _))).out.2.2.1) HSP.out hel.out ?_; intro a3 c3 w3 H3; have hS3 := nbx_grown (And.right (by assumption : _ ∧ Hid (NBx w e a c _))).out H3.out.2; obtain ⟨_, ⟨q0, q1, q2, q3, hR3⟩, _⟩ := hS3.2.out; obtain ⟨s0, s1, s2, s3, sf⟩ := cells4 hR3)
          | (go_simp; go_at_call 34; refine (stringsClone5 e.text _ hts.out).mono ?_; rintro x w2 ⟨rfl, hb2⟩; have hS2 := nbx_below (And.right (by assumption : _ ∧ Hid (NBx w e a c _))).out hb2; obtain ⟨_, ⟨p0, p1, p2, p3, hR2⟩, _⟩ := hS2.2.out; obtain ⟨t0, t1, t2, t3, tf⟩ := cells4 hR2))
      all_goals
        go_wp2_with fail
        refine bodyPost_ret (v := .agg #[.int .i64 e.kind, .string e.text, .int .i64 e.num, .slice a3 es.length c3]) (by first | (simp [results, Try.results37, go_sem, s0, s1, s2, s3]; done) | (simp [results, Try.results37, go_sem, t0, t1, t2, t3]; done)) rfl ?_
        first | exact nn_end hS3.2.out H3.out.1 (by have := hS2.2.out.2.2.2; omega) rfl | exact nn_end hS2.2.out (H3.out.1.below hb2) (by have := HN1.out.2.2.2; omega) rfl
  · have hk0 : (e.kind == 0) = false := by simp [h0]
    · have HR : Hid (rtx f t e.kind e.text = e.text) := by unfold Hid rtx; rw [if_neg (fun h => by rw [hk0] at h; cases h.1)]
      have hts : Hid (e.text.size ≤ 1048576) := by unfold Hid; omega
      rw [HR.out]
      clear h0 ht hlen HW
      go_enter Try.func37, Try.ntmps37
      have HN0 : Hid (NBx w e a c ((w.alloc (.cells #[.int .i64 e.kind, .string e.text, .int .i64 e.num, .slice a e.kids.length c] 26)).alloc (.cells #[.int .i64 0, .string ⟨#[]⟩, .int .i64 0, .slice none 0 0] 26))) := nbx_new w e a c
      go_wp2_with fail
      have HN1 := Lib.hid (HN0.out.below (below_drewE (Below.refl _ _)))
      generalize (w.alloc (.cells #[.int .i64 e.kind, .string e.text, .int .i64 e.num, .slice a e.kids.length c] 26)).alloc (.cells #[.int .i64 0, .string ⟨#[]⟩, .int .i64 0, .slice none 0 0] 26) = W0 at HN0 HN1 ⊢
      obtain ⟨⟨_, b0, b1, b2, b3⟩, ⟨v0, v1, v2, v3, hR⟩, _⟩ := HN1.out
      obtain ⟨r0, r1, r2, r3, rf⟩ := cells4 hR
      go_region_held_law (fun w' => (w'.cell? ⟨w.heap.size, 0, none⟩ = some (.int .i64 e.kind) ∧ w'.cell? ⟨w.heap.size, 1, none⟩ = some (.string e.text) ∧ w'.cell? ⟨w.heap.size, 2, none⟩ = some (.int .i64 e.num) ∧ w'.cell? ⟨w.heap.size, 3, none⟩ = some (.slice a e.kids.length c)) ∧ Hid (NBx w e a c w')) (first | assumption | exact ⟨HN1.out.1.2, HN1.out⟩ | exact nbx_store (And.right (by assumption : _ ∧ Hid (NBx w e a c _))).out rfl)
        (first
          | (refine stepCopy rfl _ _ rfl rfl a c e.kids.length es rfl HL.out HNIL.out (HCE.out _ (And.right (by assumption : _ ∧ Hid (NBx w e a c _))).out.2.2.1) HSP.out hel.out ?_; intro a3 c3 w3 H3; have hS3 := nbx_grown (And.right (by assumption : _ ∧ Hid (NBx w e a c _))).out H3.out.2; obtain ⟨_, ⟨q0, q1, q2, q3, hR3⟩, _⟩ := hS3.2.out; obtain ⟨s0, s1, s2, s3, sf⟩ := cells4 hR3)
          | (go_simp; go_at_call 34; refine (stringsClone5 e.text _ hts.out).mono ?_; rintro x w2 ⟨rfl, hb2⟩; have hS2 := nbx_below (And.right (by assumption : _ ∧ Hid (NBx w e a c _))).out hb2; obtain ⟨_, ⟨p0, p1, p2, p3, hR2⟩, _⟩ := hS2.2.out; obtain ⟨t0, t1, t2, t3, tf⟩ := cells4 hR2))
      all_goals
        go_wp2_with fail
        refine bodyPost_ret (v := .agg #[.int .i64 e.kind, .string e.text, .int .i64 e.num, .slice a3 es.length c3]) (by first | (simp [results, Try.results37, go_sem, s0, s1, s2, s3]; done) | (simp [results, Try.results37, go_sem, t0, t1, t2, t3]; done)) rfl ?_
        first | exact nn_end hS3.2.out H3.out.1 (by have := hS2.2.out.2.2.2; omega) rfl | exact nn_end hS2.2.out (H3.out.1.below hb2) (by have := HN1.out.2.2.2; omega) rfl

end Go.Proofs.Ytdggcgipchijjaa
