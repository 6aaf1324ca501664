/- impl.Renamed answers the tree, renamed, in rows of its own. -/
import Derived.Test.YtdggcgipchijjaaRenI
namespace Go.Proofs.Ytdggcgipchijjaa
open Go.RowKit

theorem renE_klen (f t : ByteArray) (e : Ex) : (renE f t e).kids.length = e.kids.length := by
  rw [renE_eq]
  exact renL_length f t e.kids

theorem RInv.form {f t : ByteArray} {w W : World} {e : Ex} {st : List Pn} {v : Value} {bs : List Nat} (h : RInv f t w e st v bs W) : ∃ a c, v = .slice a st.length c := by
  rcases h.row.2 with ⟨hv, hn⟩ | ⟨g, cap, cur, hv, _⟩
  · exact ⟨none, 0, by rw [hv, hn]⟩
  · exact ⟨_, _, hv⟩

theorem IInv.form {f t : ByteArray} {w W0 W : World} {p : Pn} {qs : List Pn} {bs : List Nat} {cs : List Es} {bss : List (List Nat)} {pss : List (List Pn)} {sk : List Pn} {v : Value} (h : IInv f t w W0 p qs bs cs bss pss sk v W) : ∃ a c, v = .slice a (qs.length + sk.length) c := by
  rcases h.row.2 with ⟨hv, hn⟩ | ⟨g, cap, cur, hv, _⟩
  · exact ⟨none, 0, by rw [hv, hn]⟩
  · exact ⟨_, _, hv⟩

/-- The last list that waits is taken. -/
theorem RInv.pop {f t : ByteArray} {w W : World} {e : Ex} {qs : List Pn} {p : Pn} {v : Value} {bs : List Nat} (h : RInv f t w e (qs ++ [p]) v bs W) :
    ∃ g cap, v = .slice (some ⟨g, 0, none⟩) (qs.length + 1) cap ∧ qs.length + 1 ≤ cap ∧ cap ≤ maxLen ∧ W.cell? ⟨g, qs.length, none⟩ = some p.v ∧ IInv f t w W p qs bs [] [] [] [] (.slice (some ⟨g, 0, none⟩) qs.length cap) W ∧
      0 < p.es.length ∧ p.es.length ≤ p.c ∧ p.c ≤ maxLen ∧ (∀ x ∈ p.es, x.e.fit ∧ ∃ D, KidsAt w (D + 1) x.a x.c x.e.kids) ∧ nodesL (p.es.map Es.e) ≤ e.nodes ∧ wtL (p.es.map Es.e) ≤ e.wt := by
  obtain ⟨ps, hT, hP⟩ := h.tree
  have hpm : p ∈ ps := hP.mem_iff.2 (List.mem_append_right _ (List.mem_singleton.2 rfl))
  obtain ⟨hp, hc, hown, hk, hn1, hn2⟩ := hT.waits p hpm
  have hpb := hT.mem p hpm
  have hr := h.row
  have hap := h.apart
  have n1 : nodesL [e] = e.nodes := by simp [nodesL]
  have n2 : wtL [e] = e.wt := by simp [wtL]
  rcases h.row.2 with ⟨_, hn⟩ | ⟨g, cap, cur, hv, hB, hg, hnc, hcm, hcs, ht⟩
  · simp at hn
  · subst hv
    refine ⟨g, cap, by simp, by simpa using hnc, hcm, ?_, ?_, hp, hc.2, hc.1, hk, by omega, by omega⟩
    · rw [hr.cellAt qs.length (by simp)]
      simp
    · refine ⟨Nat.zero_le _, rfl, rfl, fun j h => by simp at h, fun j h => by simp at h, by simpa using hown, by simp, by simp, ?_, fun b hb => ⟨by simp, hap b hb⟩, fun _ _ _ => rfl, h.res, h.bel, ⟨h.size, Nat.le_refl _⟩, ⟨hpb, h.range _ hpb, hT.lt _ hpb⟩, fun b hb => ⟨hT.lt b hb, h.range b hb⟩⟩
      refine ⟨by simp, .inr ⟨g, cap, cur, rfl, hB, hg, by simp at hnc ⊢; omega, hcm, hcs, ?_⟩⟩
      have := congrArg (List.take (qs.length * 1)) ht
      simpa [List.take_take, Nat.min_eq_left] using this

/-- One list put behind those that wait. -/
theorem wpPushR {f t : ByteArray} {w W0 W : World} {p : Pn} {qs : List Pn} {bs : List Nat} {cs : List Es} {bss : List (List Nat)} {pss : List (List Pn)} {sk : List Pn} {ops : Array Oper} {rest : List Oper} {o : Oper} {A : Act} {Q : Exit → Act → World → Prop} (hgd : o.guard = none) (s x : Operand)
    (ho : o.op = .call { callee := .builtin .append, args := #[s, x], argTypes := #[58, 58] }) (a0 : Option Addr) (c0 n2 : Nat) (hn2 : n2 = qs.length + sk.length) (q : Pn) (o1 : Obj)
    (hI : IInv f t w W0 p qs bs cs bss pss sk (.slice a0 n2 c0) W) (hn : qs.length + sk.length + 1 ≤ 1073741824)
    (hs : A.eval s = .slice a0 n2 c0) (Z : Nat) (hZ : W.heap.size = Z) (hx : A.eval x = .slice (some ⟨Z, 0, none⟩) 1 1) (ho1 : o1 = .cells #[q.v] 24)
    (h : ∀ a' c' w', Hid (IInv f t w W0 p qs bs cs bss pss (sk ++ [q]) (.slice a' (n2 + 1) c') w') → wpList Try.prog ops Q rest (A.put o.dst (.slice a' (n2 + 1) c')) w') :
    wpList Try.prog ops Q (o :: rest) A (W.alloc o1) := by
  subst ho1 hn2 hZ
  obtain ⟨i0, hi0, hz0, hz1, hz2⟩ := info_parts Try.infoKidsS
  have hI2 := hI.below ((Below.refl W.heap.size W).alloc (Nat.le_refl _) (.cells #[q.v] 24))
  refine wpList_append_own_at _ hgd s x 58 ho (w.heap.size + 3) 24 i0 (.slice none 0 0) 1 24 Try.underlying58 hi0 hz0 hz1 hz2 rfl (by decide) (.slice a0 (qs.length + sk.length) c0) (qs.length + sk.length) ((qs ++ sk).map Pn.v) hs hI2.row
    ⟨W.heap.size, 0, none⟩ 1 1 [q.v] hx rfl ?_ (fun u hu => by simp at hu; subst hu; rfl) (by unfold maxLen; omega) (by omega) (by have := hI2.size; omega) ?_
  · intro j u hu
    cases j with
    | zero => simp at hu; subst hu; simp [go_sem, Addr.add]
    | succ j => simp at hu
  · intro v' w' hown' hg _ hat
    obtain ⟨a', c', rfl⟩ : ∃ a' c', v' = .slice a' (qs.length + sk.length + 1) c' := by
      rcases hown'.2 with ⟨_, h0⟩ | ⟨g', cap, cur, rfl, _⟩
      · omega
      · exact ⟨_, _, rfl⟩
    exact h a' c' w' (hI2.push q hown' hg hat)

/-- What a renaming answers: a new tree in rows of its own. -/
def NewR (w : World) (e : Ex) (x : Ending) (w' : World) : Prop :=
  ∃ a c d bs, x = .returned (.agg #[.int .i64 e.kind, .string e.text, .int .i64 e.num, .slice a e.kids.length c]) ∧ KidsO w' d a c e.kids bs ∧ bs.Nodup ∧ (∀ b ∈ bs, w.heap.size ≤ b) ∧ Below w.heap.size w w'

theorem RInv.start {f t : ByteArray} {w : World} {e : Ex} {a : Option Addr} {c d : Nat} (hfit : e.fit) (hk : KidsAt w d a c e.kids) {o : Obj} {W : World}
    (hW : W = (((w.alloc o).alloc (.cells #[.int .i64 0, .string ⟨#[]⟩, .int .i64 0, .slice none 0 0] 26)).alloc (.cells #[.int .i64 e.kind, .string e.text, .int .i64 e.num, .slice a e.kids.length c] 26)).alloc (.cells #[.slice (some ⟨w.heap.size + 1 + 1, 0, none⟩) 1 1] 24)) :
    RInv f t w e [⟨w.heap.size + 2, 1, [⟨e, a, c⟩]⟩] (.slice (some ⟨w.heap.size + 1 + 1 + 1, 0, none⟩) 1 1) [w.heap.size + 2] W := by
  have hb : Below w.heap.size w W := by
    subst hW
    exact ((((Below.refl _ _).alloc (Nat.le_refl _) _).alloc (by simp) _).alloc (by simp; omega) _).alloc (by simp; omega) _
  have hsz : W.heap.size = w.heap.size + 4 := by subst hW; simp
  obtain ⟨D, rfl⟩ : ∃ D, d = D + 1 := ⟨d - 1, by cases d with | zero => exact hk.elim | succ n => omega⟩
  refine ⟨⟨[⟨w.heap.size + 2, 1, [⟨e, a, c⟩]⟩], ?_, List.Perm.refl _⟩, by simp, fun g hg => by simp at hg; omega, ?_, fun g hg hm => ?_, ⟨.int .i64 0, .string ⟨#[]⟩, .int .i64 0, .slice none 0 0, ?_⟩, hb, by omega⟩
  · have hown : W.ownsRow (w.heap.size + 2) 26 4 (.slice (some ⟨w.heap.size + 2, 0, none⟩) 1 1) 1 (ecells [⟨e, a, c⟩]) := by
      have h1 := World.ownsRow_lit (base := w.heap.size + 2) (e := 26) (size := 4) ((w.alloc o).alloc (.cells #[.int .i64 0, .string ⟨#[]⟩, .int .i64 0, .slice none 0 0] 26)) #[.int .i64 e.kind, .string e.text, .int .i64 e.num, .slice a e.kids.length c] 1 (by simp) (by unfold maxLen; omega) rfl
      have h2 : (((w.alloc o).alloc (.cells #[.int .i64 0, .string ⟨#[]⟩, .int .i64 0, .slice none 0 0] 26)).alloc (.cells #[.int .i64 e.kind, .string e.text, .int .i64 e.num, .slice a e.kids.length c] 26)).ownsRow (w.heap.size + 2) 26 4 (.slice (some ⟨w.heap.size + 2, 0, none⟩) 1 1) 1 (ecells [⟨e, a, c⟩]) := by
        have e1 : ((w.alloc o).alloc (.cells #[.int .i64 0, .string ⟨#[]⟩, .int .i64 0, .slice none 0 0] 26)).heap.size = w.heap.size + 2 := by simp
        rw [e1] at h1
        exact h1
      rw [hW]
      exact ownsRow_block h2 fun g hg => ((Below.refl _ _).alloc (Nat.le_refl _) _).block g (h2.lt g hg).2
    exact .wait ⟨w.heap.size + 2, 1, [⟨e, a, c⟩]⟩ (by simp) ⟨by show 1 ≤ maxLen; unfold maxLen; omega, by simp⟩ hown (fun x hx => by rw [List.mem_singleton] at hx; subst hx; exact ⟨hfit, D, hk⟩)
  · have h1 := World.ownsRow_lit (base := w.heap.size + 3) (e := 24) (size := 1) (((w.alloc o).alloc (.cells #[.int .i64 0, .string ⟨#[]⟩, .int .i64 0, .slice none 0 0] 26)).alloc (.cells #[.int .i64 e.kind, .string e.text, .int .i64 e.num, .slice a e.kids.length c] 26)) #[.slice (some ⟨w.heap.size + 1 + 1, 0, none⟩) 1 1] 1 (by simp) (by unfold maxLen; omega) rfl
    rw [← hW] at h1
    simpa [Pn.v] using h1
  · cases hg
    simp at hm
  · have h1 := heap_alloc_new (w.alloc o) (.cells #[.int .i64 0, .string ⟨#[]⟩, .int .i64 0, .slice none 0 0] 26)
    have e1 : (w.alloc o).heap.size = w.heap.size + 1 := by simp
    rw [e1] at h1
    have hb2 : Below (w.heap.size + 2) ((w.alloc o).alloc (.cells #[.int .i64 0, .string ⟨#[]⟩, .int .i64 0, .slice none 0 0] 26)) W := by
      subst hW
      exact ((Below.refl _ _).alloc (by simp) _).alloc (by simp) _
    rw [hb2.block _ (by omega)]
    exact h1

/-- The root, where nothing waits. -/
theorem RInv.root {f t : ByteArray} {w W : World} {e : Ex} {v : Value} {bs : List Nat} (h : RInv f t w e [] v bs W) :
    ∃ a c d bs2, W.cell? ⟨w.heap.size + 2, 0, none⟩ = some (.int .i64 (renE f t e).kind) ∧ W.cell? ⟨w.heap.size + 2, 1, none⟩ = some (.string (renE f t e).text) ∧ W.cell? ⟨w.heap.size + 2, 2, none⟩ = some (.int .i64 (renE f t e).num) ∧ W.cell? ⟨w.heap.size + 2, 3, none⟩ = some (.slice a (renE f t e).kids.length c) ∧
      KidsO W d a c (renE f t e).kids bs2 ∧ bs2.Nodup ∧ ∀ b ∈ bs2, w.heap.size + 2 ≤ b := by
  obtain ⟨ps, hT, hP⟩ := h.tree
  have h0 : ps = [] := hP.eq_nil
  subst h0
  have hK := hT.end rfl
  obtain ⟨_, _, _, h4⟩ := hK
  rcases h4 with ⟨h5, _⟩ | ⟨b, es, bss, ha, hk, hlb, hp, hbs, hown, hkid⟩
  · simp [renL] at h5
  · cases ha
    have hl : es.length = 1 := by have := congrArg List.length hk; simpa [renL] using this.symm
    obtain ⟨x, rfl⟩ := List.length_eq_one_iff.1 hl
    have hxe : x.e = renE f t e := by simpa [renL] using hk.symm
    have hlb1 : bss.length = 1 := by simpa using hlb
    obtain ⟨l, rfl⟩ := List.length_eq_one_iff.1 hlb1
    obtain ⟨c0, c1, c2, c3⟩ := ecells_at [x] 0 (by simp)
    have e0 := (World.ownsRow.cellAt (w := W) hown (0 * 4) (by simp)).trans c0
    have e1 := (World.ownsRow.cellAt (w := W) hown (0 * 4 + 1) (by simp)).trans c1
    have e2 := (World.ownsRow.cellAt (w := W) hown (0 * 4 + 2) (by simp)).trans c2
    have e3 := (World.ownsRow.cellAt (w := W) hown (0 * 4 + 3) (by simp)).trans c3
    simp only [List.getElem_cons_zero, Es.k, Es.t, Es.n, Es.s, hxe, Nat.zero_mul, Nat.zero_add] at e0 e1 e2 e3
    have hkk := (hkid 0 (by simp) (by simp)).2
    simp only [List.getElem_cons_zero, hxe] at hkk
    have hnd := h.nodup
    have hrg := h.range
    rw [hbs] at hnd hrg
    simp at hnd hrg
    exact ⟨x.a, x.c, _, l, e0, e1, e2, e3, hkk, hnd.2, fun b hb => hrg b hb⟩

theorem nodesL_esTake (es : List Es) (k : Nat) (h : k < es.length) : nodesL ((es.take (k + 1)).map Es.e) = nodesL ((es.take k).map Es.e) + es[k].e.nodes := by
  have := nodesL_take (es.map Es.e) k (by simpa using h)
  simpa using this

theorem sumN_len (st : List Pn) (h : ∀ p ∈ st, 0 < p.es.length) : st.length ≤ sumN st := by
  induction st with
  | nil => simp
  | cons p r ih =>
    have h1 := h p (List.mem_cons_self ..)
    have h2 := nodesL_len (p.es.map Es.e)
    have h3 := ih fun q hq => h q (List.mem_cons_of_mem _ hq)
    simp only [sumN, List.map_cons, List.sum_cons, List.length_cons] at h3 ⊢
    simp at h2
    omega

set_option maxRecDepth 100000 in
set_option maxHeartbeats 1500000 in
theorem implRenamed (f t : ByteArray) (e : Ex) (a : Option Addr) (c d : Nat) (w : World) (hfit : e.fit) (hk : KidsAt w d a c e.kids) (hwt : e.wt ≤ 1048576) (ht : t.size ≤ 1048576) :
    Calls Try.prog 15 #[.agg #[.int .i64 e.kind, .string e.text, .int .i64 e.num, .slice a e.kids.length c], .string f, .string t] w (NewR w (renE f t e)) := by
  have HST := Lib.hid (fun o W => RInv.start (f := f) (t := t) (o := o) (W := W) hfit hk)
  have hnd : e.nodes ≤ 1048577 := by have := nodes_wt e; omega
  clear hk hfit
  go_enter Try.func15, Try.ntmps15
  go_wp2_with fail
  go_loopg [8] e.nodes (fun N v wr => ∃ st bs, Hid (RInv f t w e st v bs wr ∧ (∀ p ∈ st, 0 < p.es.length)) ∧ sumN st = N ∧ N ≤ e.nodes ∧ ∃ a0 c0, v = .slice a0 st.length c0)
  case atStart => exact ⟨_, _, ⟨HST.out _ _ rfl, by simp⟩, by simp [sumN, nodesL], Nat.le_refl _, _, _, rfl⟩
  case round =>
    obtain ⟨st, bs, HR, hsum, hN, a0, c0, rfl⟩ := hrel
    rcases List.eq_nil_or_concat st with rfl | ⟨qs, p, rfl⟩
    · obtain ⟨ar, cr, dr, bs2, e0, e1, e2, e3, hko, hndp, hlo⟩ := HR.out.1.root
      obtain ⟨v0, v1, v2, v3, hres⟩ := HR.out.1.res
      obtain ⟨r0, r1, r2, r3, rf⟩ := cells4 hres
      have HKO := Lib.hid hko
      have HND := Lib.hid hndp
      have HLO := Lib.hid hlo
      have hf0 := rf 0
      have hf1 := rf 1
      have hf2 := rf 2
      have hf3 := rf 3
      clear hko hndp hlo hres rf hsum hN
      generalize hgE : renE f t e = E at *
      go_wp2_with fail
      refine bodyPost_ret (v := .agg #[.int .i64 E.kind, .string E.text, .int .i64 E.num, .slice ar E.kids.length cr]) (by simp [results, Try.results15, go_sem, r0, r1, r2, r3]) rfl ⟨ar, cr, dr, bs2, rfl, HKO.out.agree ?_, HND.out, fun b hb => by have := HLO.out b hb; omega, ?_⟩
      · intro b hb
        have hne : b ≠ w.heap.size + 1 := by have := HLO.out b hb; omega
        rw [Below.heap_setCell _ _ _ _ hne, Below.heap_setCell _ _ _ _ hne, Below.heap_setCell _ _ _ _ hne, Below.heap_setCell _ _ _ _ hne]
      · exact (((HR.out.1.bel.setCell (by simp) _).setCell (by simp) _).setCell (by simp) _).setCell (by simp) _
    · rw [List.concat_eq_append] at *
      obtain ⟨g, cap, hv, hcap, hcapm, hcell, hI, hp, hpc, hpcm, hpk, hpn, hpw⟩ := HR.out.1.pop
      simp only [List.length_append, List.length_cons, List.length_nil, Nat.zero_add] at hv ⊢
      cases hv
      unfold Pn.v at hcell
      unfold maxLen at hcapm hpcm
      obtain ⟨Wa, hWa⟩ : ∃ Wa, Wa = wr := ⟨_, rfl⟩
      have HI : Hid (IInv f t w Wa p qs bs [] [] [] [] (.slice (some ⟨g, 0, none⟩) qs.length c0) wr) := by rw [hWa]; exact hI
      have HRa : Hid (RInv f t w e (qs ++ [p]) (.slice (some ⟨g, 0, none⟩) (qs ++ [p]).length c0) bs Wa) := by rw [hWa]; exact HR.out.1
      have HPK := Lib.hid hpk
      rw [sumN_append, sumN_one] at hsum
      have HS := Lib.hid hsum
      have HQ : Hid (∀ q ∈ qs, 0 < q.es.length) := fun q hq => HR.out.2 q (List.mem_append_left _ hq)
      have HPW := Lib.hid hpw
      have hpn2 : p.es.length ≤ 1048577 := by have h1 := nodesL_len (p.es.map Es.e); simp at h1; omega
      clear hI hpk hsum hpw hWa HR
      go_wp2_with fail
      go_loopw [8, 32] (fun v i wr => ∃ (cs : List Es) (bss : List (List Nat)) (pss : List (List Pn)) (a2 : Option Addr) (c2 n2 : Nat), i = .int .i64 (cs.length : Int) ∧ v = .slice a2 n2 c2 ∧ Hid (n2 = qs.length + pss.flatten.length) ∧ cs.length ≤ p.es.length ∧ Hid (IInv f t w Wa p qs bs cs bss pss pss.flatten v wr ∧ (∀ q ∈ pss.flatten, 0 < q.es.length) ∧ sumN pss.flatten + cs.length = nodesL ((p.es.take cs.length).map Es.e))) (fun _ i _ => p.es.length - (intOf i).toNat)
      case atStart => exact ⟨[], [], [], _, _, _, rfl, rfl, by unfold Hid; simp, Nat.zero_le _, HI.out, by simp, by simp [sumN, nodesL]⟩
      case round =>
        obtain ⟨cs, bss, pss, a2, c2, n2, rfl, rfl, Hn2, hcl, HJ⟩ := hrel
        by_cases hlt : cs.length < p.es.length
        · have hrb := HJ.out.1.rowb
          have hdl : cs.length < (cs ++ p.es.drop cs.length).length := by simp; omega
          obtain ⟨t0, t1, t2, t3⟩ := ecells_at (cs ++ p.es.drop cs.length) cs.length hdl
          have hxk : (cs ++ p.es.drop cs.length)[cs.length] = p.es[cs.length] := by
            rw [List.getElem_append_right (Nat.le_refl _)]; simp
          rw [hxk] at t0 t1 t2 t3
          have c0' := (World.ownsRow.cellAt (w := wr) hrb (cs.length * 4) (by omega)).trans t0
          have c1' := (World.ownsRow.cellAt (w := wr) hrb (cs.length * 4 + 1) (by omega)).trans t1
          have c2' := (World.ownsRow.cellAt (w := wr) hrb (cs.length * 4 + 2) (by omega)).trans t2
          have c3' := (World.ownsRow.cellAt (w := wr) hrb (cs.length * 4 + 3) (by omega)).trans t3
          unfold Es.k at c0'
          unfold Es.t at c1'
          unfold Es.n at c2'
          unfold Es.s at c3'
          have hxm : p.es[cs.length] ∈ p.es := List.getElem_mem hlt
          obtain ⟨hxf, D, hxK⟩ := HPK.out _ hxm
          have HXW : Hid (p.es[cs.length].e.wt ≤ 1048576) := by
            have h1 := wtL_get (l := p.es.map Es.e) (k := cs.length) (by simpa using hlt)
            have h2 := HPW.out
            simp at h1
            unfold Hid; omega
          have hNT := nodesL_esTake p.es cs.length hlt
          have HNT := Lib.hid hNT
          generalize hX : p.es[cs.length] = X at *
          obtain ⟨es2, hes2, hk2, hc2⟩ := hxK.es
          have HE2 := Lib.hid hes2
          have HK2 : Hid (∀ x ∈ es2, x.e.fit ∧ ∃ D, KidsAt w (D + 1) x.a x.c x.e.kids) := fun x hx => by
            obtain ⟨h1, h2⟩ := hk2 x hx
            cases D with
            | zero => exact h2.elim
            | succ D => exact ⟨h1, D, h2⟩
          have HC2 : Hid (∀ W', Below w.heap.size w W' → 0 < X.e.kids.length → ∃ b off, X.a = some ⟨b, off, none⟩ ∧ b < W'.heap.size ∧ ∀ (j : Nat) (u : Value), (ecells es2)[j]? = some u → W'.cell? ⟨b, off + j, none⟩ = some u) := fun W' hb hp => by
            obtain ⟨b, off, h1, h2, h3⟩ := hc2 hp
            exact ⟨b, off, h1, Nat.lt_of_lt_of_le h2 hb.size, fun j u hu => (hb.cell (p := ⟨b, off + j, none⟩) h2).trans (h3 j u hu)⟩
          have HXK := Lib.hid (fun W' hb => hxK.below (w' := W') hb)
          have hxl := hxK.len
          have hl2 : Hid (X.e.kids.length = es2.length) := by unfold Hid; rw [← hes2]; simp
          have HB1 : Hid (∀ o, Below w.heap.size w (wr.alloc o) ∧ Below wr.heap.size wr (wr.alloc o)) := fun o => ⟨HJ.out.1.bel.trans (((Below.refl wr.heap.size wr).alloc (Nat.le_refl _) o).mono HJ.out.1.bel.size), (Below.refl _ _).alloc (Nat.le_refl _) o⟩
          have hbl2 : p.b < wr.heap.size := ownsRow_lt hrb
          clear t0 t1 t2 t3 hxk hes2 hk2 hc2 hxK hrb hNT hxm
          go_wp2_with fail
          refine (implRenNode f t X.e X.a X.c D _ (HXK.out _ (HB1.out _).1) HXW.out ht es2 HE2.out (HC2.out _ (HB1.out _).1)).mono ?_
          rintro x w2 ⟨a', c', rfl, hown', hnil', hb2⟩
          have hbb : Below wr.heap.size wr w2 := ((HB1.out _).2).trans (hb2.mono (by simp))
          have HBB := Lib.hid hbb
          obtain ⟨nb, np, hT, hnd', hnb, hsn, hcase⟩ := pt_new (f := f) (t := t) hown' hnil' HK2.out
          rw [HE2.out] at hT hsn
          have hnb' : ∀ g ∈ nb, wr.heap.size ≤ g ∧ g < w2.heap.size := fun g hg => ⟨by have := (hnb g hg).1; simp at this; omega, (hnb g hg).2⟩
          have hg2 := (HJ.out.1.below hbb).rowb
          have d0 : w2.cell? ⟨p.b, cs.length * 4, none⟩ = some (.int .i64 X.e.kind) := (hbb.cell (p := ⟨p.b, cs.length * 4, none⟩) hbl2).trans c0'
          have d1 : w2.cell? ⟨p.b, cs.length * 4 + 1, none⟩ = some (.string X.e.text) := (hbb.cell (p := ⟨p.b, cs.length * 4 + 1, none⟩) hbl2).trans c1'
          have d2 : w2.cell? ⟨p.b, cs.length * 4 + 2, none⟩ = some (.int .i64 X.e.num) := (hbb.cell (p := ⟨p.b, cs.length * 4 + 2, none⟩) hbl2).trans c2'
          have d3 : w2.cell? ⟨p.b, cs.length * 4 + 3, none⟩ = some (.slice X.a X.e.kids.length X.c) := (hbb.cell (p := ⟨p.b, cs.length * 4 + 3, none⟩) hbl2).trans c3'
          have f0 : w2.frozen? ⟨p.b, cs.length * 4, none⟩ = false := hg2.frozenAt _
          have f1 : w2.frozen? ⟨p.b, cs.length * 4 + 1, none⟩ = false := hg2.frozenAt _
          have f2 : w2.frozen? ⟨p.b, cs.length * 4 + 2, none⟩ = false := hg2.frozenAt _
          have f3 : w2.frozen? ⟨p.b, cs.length * 4 + 3, none⟩ = false := hg2.frozenAt _
          have HND' : Hid (∀ w3, w3 = (((w2.setCell ⟨p.b, cs.length * 4, none⟩ (.int .i64 X.e.kind)).setCell ⟨p.b, cs.length * 4 + 1, none⟩ (.string (rtx f t X.e.kind X.e.text))).setCell ⟨p.b, cs.length * 4 + 2, none⟩ (.int .i64 X.e.num)).setCell ⟨p.b, cs.length * 4 + 3, none⟩ (.slice a' es2.length c') → IInv f t w Wa p qs bs (cs ++ [⟨renE f t X.e, a', c'⟩]) (bss ++ [nb]) (pss ++ [np]) pss.flatten (.slice a2 n2 c2) w3) := by
            intro w3 h3
            refine HJ.out.1.node hlt HBB.out (by rw [hX]; exact hT) hnd' hnb' rfl (x := ⟨renE f t X.e, a', c'⟩) (by rw [hX]) ⟨?_, ?_, ?_, ?_⟩ h3
            · unfold Es.k; rw [renE_eq]; rfl
            · unfold Es.t; rw [renE_eq]; rfl
            · unfold Es.n; rw [renE_eq]; rfl
            · show Value.slice a' es2.length c' = .slice a' (renE f t X.e).kids.length c'
              rw [renE_klen, hl2.out]
          have HFL : Hid ((pss ++ [np]).flatten = pss.flatten ++ np) := by unfold Hid; simp
          have HSM : Hid (sumN pss.flatten + sumN np + (cs.length + 1) = nodesL ((p.es.take (cs.length + 1)).map Es.e)) := by
            have h1 := HJ.out.2.2; have h2 := HNT.out; have h3 := Ex.nodes_eq X.e
            unfold Hid; omega
          have hqn : Hid (qs.length + pss.flatten.length + 1 ≤ 1073741824) := by
            have h1 := sumN_len qs HQ.out
            have h2 := sumN_len pss.flatten HJ.out.2.1
            have h3 := HS.out
            have h4 := HJ.out.2.2
            have h5 : nodesL ((p.es.take cs.length).map Es.e) ≤ nodesL (p.es.map Es.e) := by rw [List.map_take]; exact nodesL_mono _ _
            unfold Hid; omega
          have hll : (cs ++ [(⟨renE f t X.e, a', c'⟩ : Es)]).length = cs.length + 1 := by simp
          have HLL := Lib.hid hll
          have hcsb : cs.length ≤ 1048577 := by omega
          have hes2l : es2.length ≤ 9223372036854775807 := by have := hl2.out; omega
          clear c0' c1' c2' c3' hg2 hT hnd' hnb hnb' hown' hnil' hb2 hbb hll
          by_cases hpos : 0 < es2.length
          · obtain ⟨g', rfl, rfl⟩ : ∃ g', a' = some ⟨g', 0, none⟩ ∧ np = [⟨g', c', es2⟩] := by
              rcases hcase with ⟨h0, _⟩ | h
              · subst h0; simp at hpos
              · obtain ⟨g', _, h1, h2⟩ := h
                exact ⟨g', h1, h2⟩
            clear hcase
            go_wp2_with (at_builtin; refine wpPushR rfl (.tmp 51) (.tmp 57) rfl a2 c2 n2 Hn2.out ⟨g', c', es2⟩ _ (HND'.out _ rfl) hqn.out rfl w2.heap.size (by simp [World.setCell]) rfl rfl ?_; intro a6 c6 w6 HI6)
            go_roundw
            case rel =>
              refine ⟨cs ++ [⟨renE f t X.e, some ⟨g', 0, none⟩, c'⟩], bss ++ [nb], pss ++ [[⟨g', c', es2⟩]], a6, c6, n2 + 1, by rw [HLL.out]; go_num, rfl, by unfold Hid; rw [HFL.out, Hn2.out, List.length_append]; simp only [List.length_cons, List.length_nil]; omega, by rw [HLL.out]; omega, ?_, ?_, ?_⟩
              · have h1 := HI6.out
                rw [← HFL.out] at h1
                exact h1
              · rw [HFL.out]
                intro q hq
                rcases List.mem_append.1 hq with hq | hq
                · exact HJ.out.2.1 q hq
                · rw [List.mem_singleton] at hq; subst hq; exact hpos
              · rw [HFL.out, sumN_append, HLL.out]
                exact HSM.out
            case measure => simp [intOf]; omega
          · obtain ⟨rfl, rfl⟩ : es2 = [] ∧ np = [] := by
              rcases hcase with h | ⟨g', hp', _⟩
              · exact h
              · exact absurd hp' hpos
            clear hcase
            go_wp2_with fail
            go_roundw
            case rel =>
              refine ⟨cs ++ [⟨renE f t X.e, a', c'⟩], bss ++ [nb], pss ++ [[]], a2, c2, n2, by rw [HLL.out]; go_num, rfl, by unfold Hid; rw [HFL.out, Hn2.out, List.append_nil], by rw [HLL.out]; omega, ?_, ?_, ?_⟩
              · have h1 := HND'.out _ rfl
                have e2 : (pss ++ [([] : List Pn)]).flatten = pss.flatten := by simp
                rw [e2]
                exact h1
              · rw [HFL.out]; simpa using HJ.out.2.1
              · rw [HFL.out, sumN_append, HLL.out]
                exact HSM.out
            case measure => simp [intOf]; omega
        · have hle : cs.length = p.es.length := by omega
          go_wp2_with fail
          go_roundg (sumN (qs ++ pss.flatten))
          case measure =>
            have h1 := HJ.out.2.2; have h2 := HS.out
            rw [hle, List.take_length] at h1
            rw [sumN_append]
            omega
          case rel =>
            obtain ⟨bs', hR'⟩ := HJ.out.1.end HRa.out hle (by unfold maxLen; omega)
            refine ⟨qs ++ pss.flatten, bs', ⟨hR', fun q hq => ?_⟩, rfl, ?_, a2, c2, by rw [Hn2.out, List.length_append]⟩
            · rcases List.mem_append.1 hq with hq | hq
              · exact HQ.out q hq
              · exact HJ.out.2.1 q hq
            · have h1 := HJ.out.2.2; have h2 := HS.out
              rw [hle, List.take_length] at h1
              rw [sumN_append]
              omega

end Go.Proofs.Ytdggcgipchijjaa
