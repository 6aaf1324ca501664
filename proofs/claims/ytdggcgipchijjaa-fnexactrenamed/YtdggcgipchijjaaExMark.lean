/- The laws' marks in trees of expressions. -/
import Derived.Test.YtdggcgipchijjaaExOwn
import Derived.Test.YtdggcgipchijjaaMarkText
import Derived.Test.YtdggcgipchijjaaExEq
import Derived.IntWalk
import Derived.Deep.RegionHeld3
namespace Go.Proofs.Ytdggcgipchijjaa
open Go.RowKit

mutual
def markE (k : Nat) : Ex → Ex
  | .mk _ _ _ kids => .mk (k : Int) (markT (k + 1)) ((k + 2 : Nat) : Int) (markL (k + 3) kids)
def markL (k : Nat) : List Ex → List Ex
  | [] => []
  | e :: r => markE k e :: markL (k + 3 * e.nodes) r
end

theorem markE_eq (k : Nat) (e : Ex) : markE k e = .mk (k : Int) (markT (k + 1)) ((k + 2 : Nat) : Int) (markL (k + 3) e.kids) := by
  cases e; rw [markE]; rfl

theorem markL_length (k : Nat) (l : List Ex) : (markL k l).length = l.length := by
  induction l generalizing k with
  | nil => simp [markL]
  | cons e r ih => simp [markL, ih]

theorem markL_at (k : Nat) (l : List Ex) (i : Nat) (h : i < l.length) (h' : i < (markL k l).length) : (markL k l)[i] = markE (k + 3 * nodesL (l.take i)) l[i] := by
  induction l generalizing k i with
  | nil => simp at h
  | cons e r ih =>
    cases i with
    | zero => simp [markL, nodesL]
    | succ i =>
      simp only [markL, List.getElem_cons_succ, List.take_succ_cons, nodesL]
      rw [ih (k + 3 * e.nodes) i (by simpa using h)]
      congr 1
      omega

/-- The first i of the kids are marked. -/
def markI (k : Nat) (l : List Ex) (i : Nat) : List Ex := (markL k l).take i ++ l.drop i

theorem markI_length (k : Nat) (l : List Ex) (i : Nat) : (markI k l i).length = l.length := by
  unfold markI; simp [markL_length]; omega

theorem markI_set (k : Nat) (l : List Ex) (i : Nat) (h : i < l.length) : (markI k l i).set i (markE (k + 3 * nodesL (l.take i)) l[i]) = markI k l (i + 1) := by
  have hl := markL_length k l
  unfold markI
  rw [List.set_append_right _ _ (by simp; omega)]
  have hlt : ((markL k l).take i).length = i := by simp; omega
  rw [hlt, Nat.sub_self, List.drop_eq_getElem_cons h, List.set_cons_zero, List.take_succ_eq_append_getElem (by omega), markL_at k l i h, List.append_assoc]
  rfl

theorem markI_at (k : Nat) (l : List Ex) (i : Nat) (h : i < l.length) : (markI k l i)[i]? = some l[i] := by
  have hl := markL_length k l
  have hlt : ((markL k l).take i).length = i := by simp; omega
  unfold markI
  rw [List.getElem?_append_right (by omega), hlt, Nat.sub_self, List.getElem?_drop, Nat.add_zero, List.getElem?_eq_getElem h]

theorem markI_zero (k : Nat) (l : List Ex) : markI k l 0 = l := by simp [markI]
theorem markI_all (k : Nat) (l : List Ex) : markI k l l.length = markL k l := by
  unfold markI
  rw [List.drop_length, List.append_nil]
  conv => lhs; rw [← markL_length k l]
  exact List.take_length

/-- What turns: the blocks bs, and new ones. -/
def TurnB (w w' : World) (bs : List Nat) : Prop :=
  w'.os = w.os ∧ w'.tape = w.tape ∧ w'.output = w.output ∧ w.heap.size ≤ w'.heap.size ∧ ∀ k, k < w.heap.size → k ∉ bs → w'.heap[k]? = w.heap[k]?

theorem TurnB.refl (w : World) (bs : List Nat) : TurnB w w bs := ⟨rfl, rfl, rfl, Nat.le_refl _, fun _ _ _ => rfl⟩
theorem TurnB.trans {w w1 w2 : World} {bs bs' : List Nat} (h : TurnB w w1 bs) (h' : TurnB w1 w2 bs') (hs : ∀ b ∈ bs', b ∈ bs) : TurnB w w2 bs :=
  ⟨h'.1.trans h.1, h'.2.1.trans h.2.1, h'.2.2.1.trans h.2.2.1, Nat.le_trans h.2.2.2.1 h'.2.2.2.1, fun k hk hn => by
    rw [h'.2.2.2.2 k (Nat.lt_of_lt_of_le hk h.2.2.2.1) (fun hm => hn (hs k hm)), h.2.2.2.2 k hk hn]⟩
theorem TurnB.below {w w1 w2 : World} {bs : List Nat} (h : TurnB w w1 bs) (hb : Below w1.heap.size w1 w2) : TurnB w w2 bs :=
  ⟨hb.os.trans h.1, hb.tape.trans h.2.1, hb.output.trans h.2.2.1, Nat.le_trans h.2.2.2.1 hb.size, fun k hk hn => by
    rw [hb.block k (Nat.lt_of_lt_of_le hk h.2.2.2.1), h.2.2.2.2 k hk hn]⟩
theorem TurnB.set {w w1 : World} {bs : List Nat} (h : TurnB w w1 bs) {b : Nat} (hb : b ∈ bs) (o : Nat) (v : Value) : TurnB w (w1.setCell ⟨b, o, none⟩ v) bs :=
  ⟨h.1, h.2.1, h.2.2.1, by simpa [World.setCell] using h.2.2.2.1, fun k hk hn => by
    rw [Below.heap_setCell _ _ _ _ (fun e => hn (by rw [e]; exact hb)), h.2.2.2.2 k hk hn]⟩
/-- What is turned lies at or above B. -/
theorem TurnB.bel {w w' : World} {bs : List Nat} {B : Nat} (h : TurnB w w' bs) (hB : ∀ b ∈ bs, B ≤ b) (hs : B ≤ w.heap.size) : Below B w w' :=
  ⟨h.1, h.2.1, h.2.2.1, h.2.2.2.1, fun k hk => h.2.2.2.2 k (Nat.lt_of_lt_of_le hk hs) (fun hm => by have := hB k hm; omega)⟩

/-- A row of kids that owns its blocks. -/
structure RowO (w : World) (d b c : Nat) (es : List Es) (bss : List (List Nat)) : Prop where
  len : bss.length = es.length
  own : w.ownsRow b 26 4 (.slice (some ⟨b, 0, none⟩) es.length c) es.length (ecells es)
  kid : ∀ (i : Nat) (h : i < es.length) (h' : i < bss.length), es[i].e.fit ∧ KidsO w d es[i].a es[i].c es[i].e.kids bss[i]

theorem ecells_set3 (ys : List Es) (k : Nat) (x : Es) (h : k < ys.length) (hs : x.s = ys[k].s) : (((ecells ys).set (k * 4) x.k).set (k * 4 + 1) x.t).set (k * 4 + 2) x.n = ecells (ys.set k x) := by
  induction ys generalizing k with
  | nil => simp at h
  | cons y r ih =>
    cases k with
    | zero =>
      have e : ∀ (z : Es) s, ecells (z :: s) = z.k :: z.t :: z.n :: z.s :: ecells s := fun _ _ => rfl
      rw [List.set_cons_zero, e, e, hs]
      rfl
    | succ k =>
      have e : ∀ (z : Es) s, ecells (z :: s) = z.k :: z.t :: z.n :: z.s :: ecells s := fun _ _ => rfl
      rw [List.set_cons_succ, e, e, show (k + 1) * 4 = k * 4 + 1 + 1 + 1 + 1 by omega]
      simp only [List.set_cons_succ]
      rw [← ih k (by simpa using h) (by simpa using hs)]

theorem flat_disj {bss : List (List Nat)} (h : bss.flatten.Nodup) {i j : Nat} (hi : i < bss.length) (hj : j < bss.length) (hne : i ≠ j) {x : Nat} (hx : x ∈ bss[i]) : x ∉ bss[j] := by
  induction bss generalizing i j with
  | nil => simp at hi
  | cons l r ih =>
    rw [List.flatten_cons, List.nodup_append] at h
    obtain ⟨h1, h2, h3⟩ := h
    intro hxj
    cases i with
    | zero =>
      cases j with
      | zero => exact hne rfl
      | succ j => exact h3 x (by simpa using hx) x (List.mem_flatten.2 ⟨_, List.getElem_mem (by simpa using hj), by simpa using hxj⟩) rfl
    | succ i =>
      cases j with
      | zero => exact h3 x (by simpa using hxj) x (List.mem_flatten.2 ⟨_, List.getElem_mem (by simpa using hi), by simpa using hx⟩) rfl
      | succ j => exact ih h2 (by simpa using hi) (by simpa using hj) (by omega) (by simpa using hx) (by simpa using hxj)

/-- One kid marked, with all below it. -/
theorem RowO.mark {wr w2 w3 w4 : World} {d b c i p : Nat} {es : List Es} {bss : List (List Nat)} (h : RowO wr d b c es bss) (hi : i < es.length) (hi' : i < bss.length) (hnd : (b :: bss.flatten).Nodup) (hp : p + 3 ≤ 16777216) {z : Int} (hz : z = ((p + 2 : Nat) : Int))
    (h2 : Below wr.heap.size (wr.setCell ⟨b, i * 4, none⟩ (.int .i64 (p : Int))) w2)
    (h3 : w3 = (w2.setCell ⟨b, i * 4 + 1, none⟩ (.string (markT (p + 1)))).setCell ⟨b, i * 4 + 2, none⟩ (.int .i64 z))
    (h4 : TurnB w3 w4 bss[i]) (hk4 : KidsO w4 d es[i].a es[i].c (markL (p + 3) es[i].e.kids) bss[i]) :
    RowO w4 d b c (es.set i ⟨markE p es[i].e, es[i].a, es[i].c⟩) bss ∧ TurnB wr w4 (b :: bss.flatten) := by
  subst hz
  obtain ⟨hb1, hb2⟩ := List.nodup_cons.1 hnd
  have hbw := ownsRow_lt h.own
  have hmem : ∀ x, x ∈ bss[i] → x ∈ b :: bss.flatten := fun x hx => List.mem_cons_of_mem _ (List.mem_flatten.2 ⟨_, List.getElem_mem hi', hx⟩)
  have hbi : b ∉ bss[i] := fun hm => hb1 (List.mem_flatten.2 ⟨_, List.getElem_mem hi', hm⟩)
  have hs1 : (wr.setCell ⟨b, i * 4, none⟩ (.int .i64 (p : Int))).heap.size = wr.heap.size := by simp [World.setCell]
  have T1 : TurnB wr (wr.setCell ⟨b, i * 4, none⟩ (.int .i64 (p : Int))) (b :: bss.flatten) := (TurnB.refl wr _).set (List.mem_cons_self ..) _ _
  have T2 : TurnB wr w2 (b :: bss.flatten) := T1.below (by rw [hs1]; exact h2)
  have T3 : TurnB wr w3 (b :: bss.flatten) := by subst h3; exact (T2.set (List.mem_cons_self ..) _ _).set (List.mem_cons_self ..) _ _
  have T4 := T3.trans h4 hmem
  refine ⟨⟨by simpa using h.len, ?_, fun j hj hj' => ?_⟩, T4⟩
  · have R0 := (h.own.stored (i * 4) (.int .i64 (p : Int))).1
    have R0' := ownsRow_block R0 (w' := w2) fun g hg => by cases hg; exact h2.block b (by rw [← hs1] at hbw; exact hs1 ▸ hbw)
    have R1 := (R0'.stored (i * 4 + 1) (.string (markT (p + 1)))).1
    have R2 := (R1.stored (i * 4 + 2) (.int .i64 ((p + 2 : Nat) : Int))).1
    rw [← h3] at R2
    have hset := ecells_set3 es i ⟨markE p es[i].e, es[i].a, es[i].c⟩ hi (by unfold Es.s; simp only; rw [markE_eq]; simp only [Ex.kids]; rw [markL_length])
    unfold Es.k Es.t Es.n at hset
    simp only [markE_eq, Ex.kind, Ex.text, Ex.num] at hset
    rw [← markE_eq] at hset
    rw [hset] at R2
    have hw3l : b < w3.heap.size := ownsRow_lt R2
    have := ownsRow_block R2 (w' := w4) fun g hg => by cases hg; exact h4.2.2.2.2 b hw3l hbi
    rw [List.length_set]
    exact this
  · have hj2 : j < es.length := by simpa using hj
    by_cases hji : j = i
    · subst hji
      simp only [List.getElem_set_self]
      rw [markE_eq]
      refine ⟨⟨?_, ?_, ?_⟩, hk4⟩
      · have := markT_size (p + 1); simp only [Ex.text]; unfold maxLen; omega
      · simp only [Ex.kind]; unfold i64E; omega
      · simp only [Ex.num]; unfold i64E; omega
    · rw [List.getElem_set_ne (fun e => hji e.symm)]
      obtain ⟨hf, hk⟩ := h.kid j hj2 hj'
      refine ⟨hf, hk.agree fun x hx => ?_⟩
      have hxi : x ∉ bss[i] := flat_disj hb2 hj' hi' hji hx
      have hxb : x ≠ b := fun e => hb1 (by rw [← e]; exact List.mem_flatten.2 ⟨_, List.getElem_mem hj', hx⟩)
      have hxl := hk.lt x hx
      have hl3 : x < w3.heap.size := Nat.lt_of_lt_of_le hxl T3.2.2.2.1
      rw [h4.2.2.2.2 x hl3 hxi, h3, Below.heap_setCell _ _ _ _ hxb, Below.heap_setCell _ _ _ _ hxb, h2.block x hxl, Below.heap_setCell _ _ _ _ hxb]

def MarkP (d : Nat) : Prop := ∀ (a : Option Addr) (c : Nat) (kids : List Ex) (bs : List Nat) (k : Nat) (w : World), KidsO w d a c kids bs → bs.Nodup → 1 ≤ k → k + 3 * nodesL kids ≤ 8388608 →
  Calls Try.prog 43 #[.slice a kids.length c, .int .i64 (k : Int)] w fun x w' => x = .returned (.int .i64 ((k + 3 * nodesL kids : Nat) : Int)) ∧ KidsO w' d a c (markL k kids) bs ∧ TurnB w w' bs

theorem nodesL_takeM (l : List Ex) (k : Nat) : nodesL (l.take k) ≤ nodesL l := by
  induction l generalizing k with
  | nil => simp
  | cons x r ih =>
    cases k with
    | zero => simp [nodesL]
    | succ k => simp only [List.take_succ_cons, nodesL]; have := ih k; omega

set_option maxRecDepth 100000 in
set_option maxHeartbeats 2000000 in
theorem markKids : ∀ d, MarkP d
  | 0 => fun _ _ _ _ _ _ h => h.elim
  | d + 1 => by
    intro a c kids bs k w hk hnd hk1 hk2
    have ih := markKids d
    have hlen := hk.at.len
    rcases hk.2.2.2 with ⟨rfl, rfl⟩ | ⟨b, es, bss, rfl, rfl, hl, hp, rfl, hown, hkid⟩
    · have HK := Lib.hid hk
      clear hk
      go_enter Try.func43, Try.ntmps43
      go_wp2_with fail
      go_loopw [1, 5] (fun q i wr => q = .int .i64 (k : Int) ∧ i = .int .i64 0 ∧ wr = w) (fun _ _ _ => 0)
      case atStart => exact ⟨rfl, rfl, rfl⟩
      case round =>
        obtain ⟨rfl, rfl, rfl⟩ := hrel
        go_wp2_with fail
        go_ret
        exact ⟨by simp [nodesL], by simpa [markL] using HK.out, TurnB.refl _ _⟩
    · have hR : RowO w d b c es bss := ⟨hl, hown, hkid⟩
      have HH := Lib.hid (show c ≤ maxLen ∧ (es.map Es.e).length ≤ c from ⟨hk.1, hk.2.1⟩)
      have hlm : (es.map Es.e).length = es.length := List.length_map ..
      generalize hkk : es.map Es.e = kids at *
      have HM0 : Hid (es.map Es.e = markI k kids 0) := by unfold Hid; rw [markI_zero, hkk]
      have hbw := ownsRow_lt hown
      have hme : es.length ≤ 9223372036854775807 := by omega
      clear hk hown hkid hkk
      rw [hlm]
      go_enter Try.func43, Try.ntmps43
      go_wp2_with fail
      go_loopw [1, 5] (fun q i wr => ∃ (j p : Nat) (es' : List Es), j ≤ es.length ∧ i = .int .i64 j ∧ q = .int .i64 (p : Int) ∧ p ≤ 8388608 ∧ 1 ≤ p ∧ Hid (p = k + 3 * nodesL (kids.take j)) ∧ Hid (es'.map Es.e = markI k kids j) ∧ Hid (RowO wr d b c es' bss ∧ TurnB w wr (b :: bss.flatten))) (fun _ i _ => es.length - (intOf i).toNat)
      case atStart => exact ⟨0, k, es, Nat.zero_le _, rfl, rfl, by omega, hk1, by unfold Hid; simp [nodesL], HM0, hR, TurnB.refl _ _⟩
      case round =>
        obtain ⟨j, p, es', hj, rfl, rfl, hpb, hp1, Hp, HM, HR⟩ := hrel
        have hle' : es'.length = es.length := by have := congrArg List.length HM.out; rw [List.length_map, markI_length] at this; omega
        by_cases hlt : j < es.length
        · have hj' : j < es'.length := by omega
          have hjk : j < kids.length := by omega
          have hjb : j < bss.length := by rw [HR.out.1.len]; exact hj'
          obtain ⟨t0, t1, t2, t3⟩ := ecells_at es' j hj'
          have hown' := HR.out.1.own
          have c0 := (World.ownsRow.cellAt (w := wr) hown' (j * 4) (by omega)).trans t0
          have c1 := (World.ownsRow.cellAt (w := wr) hown' (j * 4 + 1) (by omega)).trans t1
          have c2 := (World.ownsRow.cellAt (w := wr) hown' (j * 4 + 2) (by omega)).trans t2
          have c3 := (World.ownsRow.cellAt (w := wr) hown' (j * 4 + 3) (by omega)).trans t3
          have f0 : wr.frozen? ⟨b, j * 4, none⟩ = false := hown'.frozenAt _
          have f1 : wr.frozen? ⟨b, j * 4 + 1, none⟩ = false := hown'.frozenAt _
          have f2 : wr.frozen? ⟨b, j * 4 + 2, none⟩ = false := hown'.frozenAt _
          have hbl := ownsRow_lt hown'
          unfold Es.k at c0
          unfold Es.t at c1
          unfold Es.n at c2
          unfold Es.s at c3
          have hej : es'[j].e = kids[j] := by
            have h1 : (es'.map Es.e)[j]? = (markI k kids j)[j]? := by rw [HM.out]
            rw [List.getElem?_map, List.getElem?_eq_getElem hj', markI_at k kids j hjk] at h1
            exact Option.some.inj h1
          have HNT : Hid (nodesL (kids.take (j + 1)) = nodesL (kids.take j) + kids[j].nodes) := nodesL_take kids j hjk
          have HNM : Hid (nodesL (kids.take (j + 1)) ≤ nodesL kids) := nodesL_takeM kids (j + 1)
          have HNE : Hid (kids[j].nodes = 1 + nodesL kids[j].kids) := Ex.nodes_eq _
          have hbk : Hid (p + 3 + 3 * nodesL kids[j].kids ≤ 8388608) := by have h1 := Hp.out; have h2 := HNT.out; have h3 := HNM.out; have h4 := HNE.out; unfold Hid; omega
          have hp3 : p + 3 ≤ 8388608 := by have := hbk.out; omega
          have HKJ := Lib.hid (HR.out.1.kid j hj' hjb)
          obtain ⟨hb1, hb2⟩ := List.nodup_cons.1 hnd
          have hndj : Hid (bss[j].Nodup) := by
            unfold Hid
            exact (List.pairwise_flatten.1 hb2).1 _ (List.getElem_mem hjb)
          have hbj : Hid (b ∉ bss[j]) := fun hm => hb1 (List.mem_flatten.2 ⟨_, List.getElem_mem hjb, hm⟩)
          generalize hy0 : es'[j].e.kind = y0 at c0
          generalize hy1 : es'[j].e.text = y1 at c1
          generalize hy2 : es'[j].e.num = y2 at c2
          have hkl : es'[j].e.kids.length = kids[j].kids.length := by rw [hej]
          rw [hkl] at c3
          have HJ := Lib.hid hej
          have hmt : Hid (∀ z : Int, z = ((p + 1 : Nat) : Int) → ∀ W, Calls Try.prog 44 #[.int .i64 z] W fun e w' => e = .returned (.string (markT (p + 1))) ∧ Below W.heap.size W w') := fun z hz W => by
            subst hz; exact markText (p + 1) W (by omega) (by omega)
          have hih : Hid (∀ z : Int, z = ((p + 3 : Nat) : Int) → ∀ W, KidsO W d es'[j].a es'[j].c kids[j].kids bss[j] → Calls Try.prog 43 #[.slice es'[j].a kids[j].kids.length es'[j].c, .int .i64 z] W fun x w' => x = .returned (.int .i64 ((p + 3 + 3 * nodesL kids[j].kids : Nat) : Int)) ∧ KidsO w' d es'[j].a es'[j].c (markL (p + 3) kids[j].kids) bss[j] ∧ TurnB W w' bss[j]) := fun z hz W hW => by
            subst hz; exact ih _ _ _ _ (p + 3) W hW hndj.out (by omega) hbk.out
          have hj0 : (0 : Int) ≤ (j : Int) := by omega
          clear t0 t1 t2 t3 hown' hej hy0 hy1 hy2 hkl hb1 hb2 ih
          go_wp2_with fail
          refine (hmt.out _ (by omega) _).mono ?_
          rintro x w2 ⟨rfl, hb2⟩
          have hs1 : (wr.setCell ⟨b, j * 4, none⟩ (.int .i64 (p : Int))).heap.size = wr.heap.size := by simp [World.setCell]
          have hW1 : b < (wr.setCell ⟨b, j * 4, none⟩ (.int .i64 (p : Int))).heap.size := by omega
          have d1 : w2.cell? ⟨b, j * 4 + 1, none⟩ = some (.string y1) := (hb2.cell (p := ⟨b, j * 4 + 1, none⟩) hW1).trans ((World.cell?_setCell_other _ _ _ _ (by simp)).trans c1)
          have d2 : w2.cell? ⟨b, j * 4 + 2, none⟩ = some (.int .i64 y2) := (hb2.cell (p := ⟨b, j * 4 + 2, none⟩) hW1).trans ((World.cell?_setCell_other _ _ _ _ (by simp)).trans c2)
          have d3 : w2.cell? ⟨b, j * 4 + 3, none⟩ = some (.slice es'[j].a kids[j].kids.length es'[j].c) := (hb2.cell (p := ⟨b, j * 4 + 3, none⟩) hW1).trans ((World.cell?_setCell_other _ _ _ _ (by simp)).trans c3)
          have e1 : w2.frozen? ⟨b, j * 4 + 1, none⟩ = false := (hb2.frozen (p := ⟨b, j * 4 + 1, none⟩) hW1).trans (by rw [World.frozen?_setCell]; exact f1)
          have e2 : w2.frozen? ⟨b, j * 4 + 2, none⟩ = false := (hb2.frozen (p := ⟨b, j * 4 + 2, none⟩) hW1).trans (by rw [World.frozen?_setCell]; exact f2)
          have hb2' : Below wr.heap.size (wr.setCell ⟨b, j * 4, none⟩ (.int .i64 (p : Int))) w2 := by rw [hs1] at hb2; exact hb2
          have HB2 := Lib.hid hb2'
          have HK3 : Hid (∀ w3 : World, (∀ x, x ≠ b → w3.heap[x]? = w2.heap[x]?) → KidsO w3 d es'[j].a es'[j].c kids[j].kids bss[j]) := by
            intro w3 h3
            have hk := HKJ.out.2
            rw [HJ.out] at hk
            refine hk.agree fun x hx => ?_
            have hxb : x ≠ b := fun e => hbj.out (by rw [← e]; exact hx)
            rw [h3 x hxb, HB2.out.block x (hk.lt x hx), Below.heap_setCell _ _ _ _ hxb]
          clear c0 c1 c2 c3 f0 f1 f2 hb2 hb2' hW1 hs1
          go_wp2_with fail
          refine (hih.out _ (by omega) _ (HK3.out _ ?_)).mono ?_
          · intro x hx
            rw [Below.heap_setCell _ _ _ _ hx, Below.heap_setCell _ _ _ _ hx]
          rintro x w4 ⟨rfl, hk4, hT4⟩
          have HM4 := Lib.hid (HR.out.1.mark hj' hjb hnd (by omega) (z := (p : Int) + 1 + 1) (by omega) HB2.out rfl hT4 (by rw [HJ.out]; exact hk4))
          clear d1 d2 d3 e1 e2 hk4 hT4
          go_wp2_with fail
          go_roundw
          case rel =>
            refine ⟨j + 1, p + 3 + 3 * nodesL kids[j].kids, es'.set j ⟨markE p es'[j].e, es'[j].a, es'[j].c⟩, by omega, by go_num, rfl, hbk.out, by omega, ?_, ?_, HM4.out.1, HR.out.2.trans HM4.out.2 (fun _ h => h)⟩
            · have h1 := Hp.out; have h2 := HNT.out; have h4 := HNE.out; unfold Hid; omega
            · unfold Hid
              rw [List.map_set, HM.out, HJ.out, Hp.out, markI_set k kids j hjk]
          case measure => simp [intOf]; omega
        · obtain rfl : j = es.length := by omega
          go_wp2_with fail
          go_ret
          have hjk : es.length = kids.length := by omega
          have hm := HM.out
          have hpp := Hp.out
          rw [hjk, List.take_length] at hpp
          rw [hjk, markI_all] at hm
          subst hpp
          refine ⟨rfl, ⟨HH.out.1, by rw [markL_length]; exact HH.out.2, (fun h => by cases h), .inr ⟨b, es', bss, rfl, hm.symm, HR.out.1.len, by omega, rfl, HR.out.1.own, HR.out.1.kid⟩⟩, HR.out.2⟩

set_option maxHeartbeats 1000000 in
theorem markEx (e : Ex) (a : Option Addr) (c d : Nat) (bs : List Nat) (w : World) (hk : KidsO w d a c e.kids bs) (hnd : bs.Nodup) (hn : e.nodes ≤ 1048577) :
    Calls Try.prog 24 #[.agg #[.int .i64 e.kind, .string e.text, .int .i64 e.num, .slice a e.kids.length c], .int .i64 1] w fun x w' => x = .returned (.int .i64 ((1 + 3 * nodesL e.kids : Nat) : Int)) ∧ KidsO w' d a c (markL 1 e.kids) bs ∧ TurnB w w' bs := by
  have hne := Ex.nodes_eq e
  have HK := Lib.hid (hk.below ((Below.refl w.heap.size w).alloc (Nat.le_refl _) (.cells #[.int .i64 e.kind, .string e.text, .int .i64 e.num, .slice a e.kids.length c] 26)))
  have HT := Lib.hid ((TurnB.refl w bs).below ((Below.refl w.heap.size w).alloc (Nat.le_refl _) (.cells #[.int .i64 e.kind, .string e.text, .int .i64 e.num, .slice a e.kids.length c] 26)))
  clear hk
  go_enter Try.func24, Try.ntmps24
  go_wp2_with fail
  refine (markKids d a c e.kids bs 1 _ HK.out hnd (by omega) (by omega)).mono ?_
  rintro x w2 ⟨rfl, hk2, hT2⟩
  go_wp2_with fail
  go_ret
  exact ⟨rfl, hk2, HT.out.trans hT2 (fun _ h => h)⟩

end Go.Proofs.Ytdggcgipchijjaa
