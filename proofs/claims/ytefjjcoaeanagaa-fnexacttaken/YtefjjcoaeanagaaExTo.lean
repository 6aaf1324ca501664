/- The laws' own helpers over expressions: the copy. -/
import Derived.Test.YtefjjcoaeanagaaEx2
namespace Go.Proofs.Ytefjjcoaeanagaa
open Go.RowKit

/-- What a copy of an expression answers: the same tree, in new blocks. -/
def NewEx (w : World) (d : Nat) (e : Ex) (x : Ending) (w' : World) : Prop :=
  ∃ a c, x = .returned (.agg #[.int .i64 e.kind, .string e.text, .int .i64 e.num, .slice a e.kids.length c]) ∧ KidsB w.heap.size w' d a c e.kids ∧ Below w.heap.size w w'

def NewKids (w : World) (d : Nat) (kids : List Ex) (x : Ending) (w' : World) : Prop :=
  ∃ a c, x = .returned (.slice a kids.length c) ∧ KidsB w.heap.size w' d a c kids ∧ Below w.heap.size w w'

def ToP (d : Nat) : Prop := ∀ (e : Ex) (a : Option Addr) (c : Nat) (w : World), e.fit → e.wt ≤ 1048576 → KidsAt w d a c e.kids →
  Calls Try.prog 126 #[.agg #[.int .i64 e.kind, .string e.text, .int .i64 e.num, .slice a e.kids.length c]] w (NewEx w d e)

theorem Try.infoExpr : (Try.prog.info? 118).map (fun i => (i.zero, i.size, i.bytes)) = some (some (.agg #[.int .i64 0, .string ByteArray.empty, .int .i64 0, .slice none 0 0]), 4, 56) := by kernel_rfl

/-- What has been copied of a row of expressions. -/
def Done (w : World) (d : Nat) (kids : List Ex) (done : List Es) (wr : World) : Prop :=
  done.length ≤ kids.length ∧ (∀ (j : Nat) (h : j < done.length) (h' : j < kids.length), done[j].e = kids[j] ∧ KidsB (w.heap.size + 1) wr d done[j].a done[j].c kids[j].kids) ∧
  wr.ownsRow w.heap.size 118 4 (.slice (some ⟨w.heap.size, 0, none⟩) kids.length kids.length) kids.length (efill done kids.length) ∧ w.heap.size < wr.heap.size ∧ Below w.heap.size w wr

theorem Done.end {w wr : World} {d : Nat} {kids : List Ex} {done : List Es} (h : Done w d kids done wr) (hn : done.length = kids.length) (hm : kids.length ≤ maxLen) (hfit : ∀ e ∈ kids, e.fit) :
    KidsB w.heap.size wr (d + 1) (some ⟨w.heap.size, 0, none⟩) kids.length kids := by
  obtain ⟨_, hd, hown, hlt, hb⟩ := h
  refine ⟨Nat.le_refl _, hm, (fun h => by cases h), fun hp => ⟨w.heap.size, 0, rfl, Nat.le_refl _, hlt, fun i hi => ?_⟩⟩
  rw [← hn, efill_all, hn] at hown
  obtain ⟨c0, c1, c2, c3⟩ := ecells_at done i (by omega)
  obtain ⟨he, hk⟩ := hd i (by omega) hi
  have e0 := (World.ownsRow.cellAt (w := wr) hown (i * 4) (by omega)).trans c0
  have e1 := (World.ownsRow.cellAt (w := wr) hown (i * 4 + 1) (by omega)).trans c1
  have e2 := (World.ownsRow.cellAt (w := wr) hown (i * 4 + 2) (by omega)).trans c2
  have e3 := (World.ownsRow.cellAt (w := wr) hown (i * 4 + 3) (by omega)).trans c3
  unfold Es.k at e0
  unfold Es.t at e1
  unfold Es.n at e2
  unfold Es.s at e3
  rw [he] at e0 e1 e2 e3
  rw [Nat.zero_add]
  exact ⟨e0, e1, e2, hfit _ (List.getElem_mem hi), _, _, e3, hk.lower (by omega)⟩

theorem Done.step {w wr w2 w3 : World} {d : Nat} {kids : List Ex} {done : List Es} (h : Done w d kids done wr) (hlt : done.length < kids.length) {a : Option Addr} {c : Nat}
    (hk : KidsB wr.heap.size w2 d a c kids[done.length].kids) (hb2 : Below wr.heap.size wr w2)
    (h3 : w3 = (((w2.setCell ⟨w.heap.size, done.length * 4, none⟩ (.int .i64 kids[done.length].kind)).setCell ⟨w.heap.size, done.length * 4 + 1, none⟩ (.string kids[done.length].text)).setCell ⟨w.heap.size, done.length * 4 + 2, none⟩ (.int .i64 kids[done.length].num)).setCell ⟨w.heap.size, done.length * 4 + 3, none⟩ (.slice a kids[done.length].kids.length c)) :
    Done w d kids (done ++ [⟨kids[done.length], a, c⟩]) w3 := by
  obtain ⟨hle, hd, hown, hlw, hbw⟩ := h
  have hown2 : w2.ownsRow w.heap.size 118 4 (.slice (some ⟨w.heap.size, 0, none⟩) kids.length kids.length) kids.length (efill done kids.length) := World.ownsRow.kept (row := none) hown ⟨hb2.os, hb2.tape, hb2.output, hb2.size, fun k hk _ => hb2.block k hk⟩ (.inr (fun e => by cases e))
  have R0 := hown2.stored (done.length * 4) (.int .i64 kids[done.length].kind)
  have R1 := R0.1.stored (done.length * 4 + 1) (.string kids[done.length].text)
  have R2 := R1.1.stored (done.length * 4 + 2) (.int .i64 kids[done.length].num)
  have R3 := R2.1.stored (done.length * 4 + 3) (.slice a kids[done.length].kids.length c)
  have hset := efill_set done kids.length ⟨kids[done.length], a, c⟩ hlt
  unfold Es.k Es.t Es.n Es.s at hset
  simp only at hset
  rw [hset] at R3
  have hbw2 : Below w.heap.size w w2 := hbw.trans (hb2.mono hbw.size)
  have RB := (((hbw2.setCell (p := ⟨w.heap.size, done.length * 4, none⟩) (Nat.le_refl _) (.int .i64 kids[done.length].kind)).setCell (p := ⟨w.heap.size, done.length * 4 + 1, none⟩) (Nat.le_refl _) (.string kids[done.length].text)).setCell (p := ⟨w.heap.size, done.length * 4 + 2, none⟩) (Nat.le_refl _) (.int .i64 kids[done.length].num)).setCell (p := ⟨w.heap.size, done.length * 4 + 3, none⟩) (Nat.le_refl _) (.slice a kids[done.length].kids.length c)
  have hlt2 : w.heap.size < w2.heap.size := Nat.lt_of_lt_of_le hlw hb2.size
  have hsz : w3.heap.size = w2.heap.size := by subst h3; simp [World.setCell]
  have hcs : ∀ b, b ≠ w.heap.size → ∀ o, w3.cell? ⟨b, o, none⟩ = w2.cell? ⟨b, o, none⟩ := by
    intro b hb o
    subst h3
    rw [World.cell?_setCell_other _ _ _ _ (by simp [hb]), World.cell?_setCell_other _ _ _ _ (by simp [hb]), World.cell?_setCell_other _ _ _ _ (by simp [hb]), World.cell?_setCell_other _ _ _ _ (by simp [hb])]
  refine ⟨by simp; omega, fun j hj hj' => ?_, by subst h3; exact R3.1, by omega, by subst h3; exact RB⟩
  by_cases hjl : j < done.length
  · rw [List.getElem_append_left hjl]
    obtain ⟨h1, h2⟩ := hd j hjl hj'
    refine ⟨h1, (h2.below hb2).agree (by omega) fun b hb _ o => hcs b (by omega) o⟩
  · have hje : j = done.length := by simp at hj; omega
    subst hje
    rw [List.getElem_append_right (Nat.le_refl _)]
    simp only [Nat.sub_self, List.getElem_cons_zero]
    refine ⟨by first | rfl | trivial, (hk.lower (by omega)).agree (by omega) fun b hb _ o => hcs b (by omega) o⟩

theorem KidsAt.fits {w : World} {d : Nat} {a : Option Addr} {c : Nat} {kids : List Ex} (h : KidsAt w d a c kids) : ∀ e ∈ kids, e.fit := by
  intro e he
  cases d with
  | zero => exact h.elim
  | succ d =>
    obtain ⟨i, hi, rfl⟩ := List.mem_iff_getElem.1 he
    obtain ⟨_, _, _, _, _, _, _, hf, _⟩ := h.spot hi
    exact hf

theorem wtL_get {l : List Ex} {k : Nat} (h : k < l.length) : l[k].wt ≤ wtL l := by
  have h1 := wtL_take l k h
  have h2 := wtL_mono l (k + 1)
  omega

set_option maxHeartbeats 1000000 in
theorem toKids (d : Nat) (ih : ToP d) (a : Option Addr) (c : Nat) (xs : List Ex) (w : World) (hx : KidsAt w (d + 1) a c xs) (hn : xs.length + wtL xs ≤ 1048576) :
    Calls Try.prog 111 #[.slice a xs.length c] w (NewKids w (d + 1) xs) := by
  obtain ⟨i0, hi0, hz0, hz1, hz2⟩ := info_parts Try.infoExpr
  have hb16 : i0.bytes * xs.length ≤ 281474976710656 := by rw [hz2]; omega
  have hfits := Lib.hid hx.fits
  have hl := hx.len
  go_enter Try.func111, Try.ntmps111
  go_wp2_with (at_make; refine wpList_make_full _ rfl _ _ 75 rfl w.heap.size 118 i0 (.agg #[.int .i64 0, .string ByteArray.empty, .int .i64 0, .slice none 0 0]) 4 Try.underlying75 hi0 hz0 hz1 .i64 .i64 _ _ xs.length rfl rfl rfl rfl hb16 (by unfold maxLen; omega) (Nat.le_refl _) ?_; intro w1 hown hg)
  have hown1 : Done w d xs [] w1 := by
    refine ⟨Nat.zero_le _, fun j h => by simp at h, ?_, ?_, (Below.refl _ _).grown hg (Nat.le_refl _) (fun k hk => by cases hk)⟩
    · unfold efill
      rw [List.nil_append, List.length_nil, Nat.sub_zero, ecells_none]
      exact hown
    · rcases hown.2 with ⟨h, _⟩ | ⟨g, cap, cur, hv, _, hgg, _⟩
      · cases h
      · simp only [Value.slice.injEq, Option.some.injEq, Addr.mk.injEq] at hv
        rcases Nat.lt_or_ge w.heap.size w1.heap.size with h | h
        · exact h
        · rw [← hv.1.1, Array.getElem?_eq_none h] at hgg; cases hgg
  clear hown hg
  go_loopw [4] (fun i wr => ∃ done : List Es, i = .int .i64 done.length ∧ Done w d xs done wr) (fun i _ => xs.length - (intOf i).toNat)
  case atStart => exact ⟨[], rfl, hown1⟩
  case round =>
    obtain ⟨done, rfl, hd⟩ := hrel
    by_cases hlt : done.length < xs.length
    · obtain ⟨b, off, rfl, hbl, hc0, hc1, hc2, hfit, a', c', hc3, hkid⟩ := (hx.below hd.2.2.2.2).spot hlt
      have HK := Lib.hid hkid
      have HD := Lib.hid hd
      clear hkid hx hd
      go_wp2_with fail
      refine (ih xs[done.length] a' c' _ hfit (Nat.le_trans (wtL_get hlt) (by omega)) HK.out).mono ?_
      rintro e w2 ⟨a2, c2, rfl, hk2, hb2⟩
      have hown2 : w2.ownsRow w.heap.size 118 4 (.slice (some ⟨w.heap.size, 0, none⟩) xs.length xs.length) xs.length (efill done xs.length) := World.ownsRow.kept (row := none) HD.out.2.2.1 ⟨hb2.os, hb2.tape, hb2.output, hb2.size, fun k hk _ => hb2.block k hk⟩ (.inr (fun e => by cases e))
      obtain ⟨hs0, hs1, hs2, hs3⟩ := efill_at done xs.length hlt
      have hd0 : w2.cell? ⟨w.heap.size, done.length * 4, none⟩ = some (.int .i64 0) := (hown2.cellAt _ (by omega)).trans hs0
      have hd1 : w2.cell? ⟨w.heap.size, done.length * 4 + 1, none⟩ = some (.string ByteArray.empty) := (hown2.cellAt _ (by omega)).trans hs1
      have hd2 : w2.cell? ⟨w.heap.size, done.length * 4 + 2, none⟩ = some (.int .i64 0) := (hown2.cellAt _ (by omega)).trans hs2
      have hd3 : w2.cell? ⟨w.heap.size, done.length * 4 + 3, none⟩ = some (.slice none 0 0) := (hown2.cellAt _ (by omega)).trans hs3
      have hf0 : w2.frozen? ⟨w.heap.size, done.length * 4, none⟩ = false := hown2.frozenAt _
      have hf1 : w2.frozen? ⟨w.heap.size, done.length * 4 + 1, none⟩ = false := hown2.frozenAt _
      have hf2 : w2.frozen? ⟨w.heap.size, done.length * 4 + 2, none⟩ = false := hown2.frozenAt _
      have hf3 : w2.frozen? ⟨w.heap.size, done.length * 4 + 3, none⟩ = false := hown2.frozenAt _
      have HS := Lib.hid (HD.out.step hlt hk2 hb2 rfl)
      clear hown2 hs0 hs1 hs2 hs3 hc0 hc1 hc2 hc3 hbl hk2 hb2 HD HK
      go_wp2_with fail
      go_roundw
      case rel => exact ⟨done ++ [⟨xs[done.length], a2, c2⟩], by simp, HS.out⟩
      case measure => simp [intOf]; omega
    · have hle := hd.1
      have hee : done.length = xs.length := by omega
      have HE := Lib.hid (hd.end hee (by unfold maxLen; omega) hfits.out)
      have hbl := hd.2.2.2.2
      clear hd
      go_wp2_with fail
      go_ret
      exact ⟨_, _, rfl, HE.out, hbl⟩

set_option maxHeartbeats 1000000 in
theorem toEx : ∀ d, ToP d
  | 0 => fun _ _ _ _ _ _ h => h.elim
  | d + 1 => by
    intro e a c w hfit hwt hk
    have hks := toKids d (toEx d) a c e.kids
    have hw := Ex.wt_eq e
    have HK := Lib.hid (fun w' (hb : Below w.heap.size w w') => hk.below hb)
    clear hk
    go_enter Try.func126, Try.ntmps126
    go_wp2_with fail
    refine (hks _ (HK.out _ ?_) (by omega)).mono ?_
    · exact (((Below.refl _ _).alloc (Nat.le_refl _) _).alloc (by simp) _).alloc (by simp; omega) _
    rintro x w2 ⟨a2, c2, rfl, hk2, hb2⟩
    have hB : Below w.heap.size w w2 := ((((Below.refl _ _).alloc (Nat.le_refl _) _).alloc (by simp) _).alloc (by simp; omega) _).trans (hb2.mono (by simp; omega))
    obtain ⟨hcw, hfw⟩ := bcellE hb2
    have g0 : w2.cell? ⟨w.heap.size + 1 + 1, 0, none⟩ = some (.int .i64 e.kind) := (hcw _ _ (by simp)).trans (by simp [go_sem])
    have g1 : w2.cell? ⟨w.heap.size + 1 + 1, 1, none⟩ = some (.string e.text) := (hcw _ _ (by simp)).trans (by simp [go_sem])
    have g2 : w2.cell? ⟨w.heap.size + 1 + 1, 2, none⟩ = some (.int .i64 e.num) := (hcw _ _ (by simp)).trans (by simp [go_sem])
    have g3 : w2.cell? ⟨w.heap.size + 1 + 1, 3, none⟩ = some (.slice none 0 0) := (hcw _ _ (by simp)).trans (by simp [go_sem])
    have z3 : w2.frozen? ⟨w.heap.size + 1 + 1, 3, none⟩ = false := (hfw _ _ (by simp)).trans (by simp [go_sem])
    have y0 : w2.cell? ⟨w.heap.size + 1, 0, none⟩ = some (.int .i64 0) := (hcw _ _ (by simp)).trans (by simp [go_sem])
    have y1 : w2.cell? ⟨w.heap.size + 1, 1, none⟩ = some (.string ByteArray.empty) := (hcw _ _ (by simp)).trans (by simp [go_sem]; rfl)
    have y2 : w2.cell? ⟨w.heap.size + 1, 2, none⟩ = some (.int .i64 0) := (hcw _ _ (by simp)).trans (by simp [go_sem])
    have y3 : w2.cell? ⟨w.heap.size + 1, 3, none⟩ = some (.slice none 0 0) := (hcw _ _ (by simp)).trans (by simp [go_sem])
    have x0 : w2.frozen? ⟨w.heap.size + 1, 0, none⟩ = false := (hfw _ _ (by simp)).trans (by simp [go_sem])
    have x1 : w2.frozen? ⟨w.heap.size + 1, 1, none⟩ = false := (hfw _ _ (by simp)).trans (by simp [go_sem])
    have x2 : w2.frozen? ⟨w.heap.size + 1, 2, none⟩ = false := (hfw _ _ (by simp)).trans (by simp [go_sem])
    have x3 : w2.frozen? ⟨w.heap.size + 1, 3, none⟩ = false := (hfw _ _ (by simp)).trans (by simp [go_sem])
    have HE : Hid (∀ w5 : World, w2.heap.size ≤ w5.heap.size → (∀ b, w.heap.size + 3 ≤ b → ∀ o, w5.cell? ⟨b, o, none⟩ = w2.cell? ⟨b, o, none⟩) → KidsB w.heap.size w5 (d + 1) a2 c2 e.kids) := by
      intro w5 h1 h2
      refine KidsB.lower (lo := w.heap.size + 1 + 1 + 1) (by omega) (KidsB.agree (w := w2) h1 (fun b hb _ o => h2 b hb o) (by simpa using hk2))
    have HB := Lib.hid hB
    clear hk2 hb2 hB hcw hfw
    go_wp2_with fail
    refine bodyPost_ret (v := .agg #[.int .i64 e.kind, .string e.text, .int .i64 e.num, .slice a2 e.kids.length c2]) (by simp [results, Try.results126, go_sem, *]) rfl ⟨_, _, rfl, HE.out _ (by simp [World.setCell]) ?_, ?_⟩
    · intro b hb o
      have ho : ∀ (wv : World) (q : Addr) (v : Value), q.block < w.heap.size + 3 → (wv.setCell q v).cell? ⟨b, o, none⟩ = wv.cell? ⟨b, o, none⟩ := fun wv q v hq => World.cell?_setCell_other _ _ _ _ (by intro h; subst h; simp at hq; omega)
      exact (ho _ _ _ (by simp)).trans ((ho _ _ _ (by simp)).trans ((ho _ _ _ (by simp)).trans ((ho _ _ _ (by simp)).trans (ho _ _ _ (by simp)))))
    · exact ((((HB.out.setCell (by simp; omega) _).setCell (by simp) _).setCell (by simp) _).setCell (by simp) _).setCell (by simp) _

end Go.Proofs.Ytefjjcoaeanagaa
