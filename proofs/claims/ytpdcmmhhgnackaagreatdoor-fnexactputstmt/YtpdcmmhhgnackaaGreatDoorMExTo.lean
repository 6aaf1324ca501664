/- The laws' own helpers over expressions: the copy. -/
/- The model's own look at an expression: spec.l04Kids, spec.l04Shape, spec.ExprOk. -/
/- Columns and rules that can be written: when they can. Nothing of the program. -/
/- The program's table of the kinds of expressions: what the row lists of it, cell by cell. -/
/- The program's table of the kinds of rules: what the row lists of it, cell by cell; what a row lists behind another. -/
import Derived.Test.YtpdcmmhhgnackaaGreatDoorMMem
import Derived.Test.YtpdcmmhhgnackaaGreatDoorMNameImpl
import Derived.Test.YtpdcmmhhgnackaaGreatDoorMPl
import Derived.Deep.RegionHeld3
import Derived.Test.YtpdcmmhhgnackaaGreatDoorCards
import Derived.OpenShut
import Derived.LaidMore
import Derived.Lib.LaidTab
import Derived.Below
import Derived.Stop.LaidErr
namespace Go.Proofs.YtpdcmmhhgnackaaGreatDoor
open Go.RowKit

/-- What a copy of an expression answers: the same tree, in new blocks. -/
def NewEx (w : World) (d : Nat) (e : Ex) (x : Ending) (w' : World) : Prop :=
  ∃ a c, x = .returned (.agg #[.int .i64 e.kind, .string e.text, .int .i64 e.num, .slice a e.kids.length c]) ∧ KidsB w.heap.size w' d a c e.kids ∧ Below w.heap.size w w'

def NewKids (w : World) (d : Nat) (kids : List Ex) (x : Ending) (w' : World) : Prop :=
  ∃ a c, x = .returned (.slice a kids.length c) ∧ KidsB w.heap.size w' d a c kids ∧ Below w.heap.size w w'

def ToP (d : Nat) : Prop := ∀ (e : Ex) (a : Option Addr) (c : Nat) (w : World), e.fit → e.wt ≤ 1048576 → KidsAt w d a c e.kids →
  Calls Tryz.prog 71 #[.agg #[.int .i64 e.kind, .string e.text, .int .i64 e.num, .slice a e.kids.length c]] w (NewEx w d e)

theorem Tryz.infoExpr : (Tryz.prog.info? 66).map (fun i => (i.zero, i.size, i.bytes)) = some (some (.agg #[.int .i64 0, .string ByteArray.empty, .int .i64 0, .slice none 0 0]), 4, 56) := by kernel_rfl

/-- What has been copied of a row of expressions. -/
def Done (w : World) (d : Nat) (kids : List Ex) (done : List Es) (wr : World) : Prop :=
  done.length ≤ kids.length ∧ (∀ (j : Nat) (h : j < done.length) (h' : j < kids.length), done[j].e = kids[j] ∧ KidsB (w.heap.size + 1) wr d done[j].a done[j].c kids[j].kids) ∧
  wr.ownsRow w.heap.size 66 4 (.slice (some ⟨w.heap.size, 0, none⟩) kids.length kids.length) kids.length (efill done kids.length) ∧ w.heap.size < wr.heap.size ∧ Below w.heap.size w wr

theorem Done.end {w wr : World} {d : Nat} {kids : List Ex} {done : List Es} (h : Done w d kids done wr) (hn : done.length = kids.length) (hm : kids.length ≤ maxLen) (hfit : ∀ e ∈ kids, e.fit) :
    KidsB w.heap.size wr (d + 1) (some ⟨w.heap.size, 0, none⟩) kids.length kids := by
  obtain ⟨_, hd, hown, hlt, hb⟩ := h
  refine ⟨Nat.le_refl _, hm, (fun h => by cases h), fun hp => ⟨w.heap.size, 0, rfl, Nat.le_refl _, hlt, fun i hi => ?_⟩⟩
  rw [← hn, efill_all, hn] at hown
  obtain ⟨c0, c1, c2, c3⟩ := ecells_at done i (by omega)
  obtain ⟨he, hk⟩ := hd i (by omega) hi
  have e0 := (World.ownsRow.cellAt (w := wr) hown (i * 4) (by omega)).trans c0
  have e1 := (World.ownsRow.cellAt (w := wr) hown (i * 4 + 1) (by omega)).trans c1
  have e2 := (World.ownsRow.cellAt (w := wr) hown (i * 4 + 2) (by omega)).trans c2
  have e3 := (World.ownsRow.cellAt (w := wr) hown (i * 4 + 3) (by omega)).trans c3
  unfold Es.k at e0
  unfold Es.t at e1
  unfold Es.n at e2
  unfold Es.s at e3
  rw [he] at e0 e1 e2 e3
  rw [Nat.zero_add]
  exact ⟨e0, e1, e2, hfit _ (List.getElem_mem hi), _, _, e3, hk.lower (by omega)⟩

theorem Done.step {w wr w2 w3 : World} {d : Nat} {kids : List Ex} {done : List Es} (h : Done w d kids done wr) (hlt : done.length < kids.length) {a : Option Addr} {c : Nat}
    (hk : KidsB wr.heap.size w2 d a c kids[done.length].kids) (hb2 : Below wr.heap.size wr w2)
    (h3 : w3 = (((w2.setCell ⟨w.heap.size, done.length * 4, none⟩ (.int .i64 kids[done.length].kind)).setCell ⟨w.heap.size, done.length * 4 + 1, none⟩ (.string kids[done.length].text)).setCell ⟨w.heap.size, done.length * 4 + 2, none⟩ (.int .i64 kids[done.length].num)).setCell ⟨w.heap.size, done.length * 4 + 3, none⟩ (.slice a kids[done.length].kids.length c)) :
    Done w d kids (done ++ [⟨kids[done.length], a, c⟩]) w3 := by
  obtain ⟨hle, hd, hown, hlw, hbw⟩ := h
  have hown2 : w2.ownsRow w.heap.size 66 4 (.slice (some ⟨w.heap.size, 0, none⟩) kids.length kids.length) kids.length (efill done kids.length) := World.ownsRow.kept (row := none) hown ⟨hb2.os, hb2.tape, hb2.output, hb2.size, fun k hk _ => hb2.block k hk⟩ (.inr (fun e => by cases e))
  have R0 := hown2.stored (done.length * 4) (.int .i64 kids[done.length].kind)
  have R1 := R0.1.stored (done.length * 4 + 1) (.string kids[done.length].text)
  have R2 := R1.1.stored (done.length * 4 + 2) (.int .i64 kids[done.length].num)
  have R3 := R2.1.stored (done.length * 4 + 3) (.slice a kids[done.length].kids.length c)
  have hset := efill_set done kids.length ⟨kids[done.length], a, c⟩ hlt
  unfold Es.k Es.t Es.n Es.s at hset
  simp only at hset
  rw [hset] at R3
  have hbw2 : Below w.heap.size w w2 := hbw.trans (hb2.mono hbw.size)
  have RB := (((hbw2.setCell (p := ⟨w.heap.size, done.length * 4, none⟩) (Nat.le_refl _) (.int .i64 kids[done.length].kind)).setCell (p := ⟨w.heap.size, done.length * 4 + 1, none⟩) (Nat.le_refl _) (.string kids[done.length].text)).setCell (p := ⟨w.heap.size, done.length * 4 + 2, none⟩) (Nat.le_refl _) (.int .i64 kids[done.length].num)).setCell (p := ⟨w.heap.size, done.length * 4 + 3, none⟩) (Nat.le_refl _) (.slice a kids[done.length].kids.length c)
  have hlt2 : w.heap.size < w2.heap.size := Nat.lt_of_lt_of_le hlw hb2.size
  have hsz : w3.heap.size = w2.heap.size := by subst h3; simp [World.setCell]
  have hcs : ∀ b, b ≠ w.heap.size → ∀ o, w3.cell? ⟨b, o, none⟩ = w2.cell? ⟨b, o, none⟩ := by
    intro b hb o
    subst h3
    rw [World.cell?_setCell_other _ _ _ _ (by simp [hb]), World.cell?_setCell_other _ _ _ _ (by simp [hb]), World.cell?_setCell_other _ _ _ _ (by simp [hb]), World.cell?_setCell_other _ _ _ _ (by simp [hb])]
  refine ⟨by simp; omega, fun j hj hj' => ?_, by subst h3; exact R3.1, by omega, by subst h3; exact RB⟩
  by_cases hjl : j < done.length
  · rw [List.getElem_append_left hjl]
    obtain ⟨h1, h2⟩ := hd j hjl hj'
    refine ⟨h1, (h2.below hb2).agree (by omega) fun b hb _ o => hcs b (by omega) o⟩
  · have hje : j = done.length := by simp at hj; omega
    subst hje
    rw [List.getElem_append_right (Nat.le_refl _)]
    simp only [Nat.sub_self, List.getElem_cons_zero]
    refine ⟨by first | rfl | trivial, (hk.lower (by omega)).agree (by omega) fun b hb _ o => hcs b (by omega) o⟩

theorem KidsAt.fits {w : World} {d : Nat} {a : Option Addr} {c : Nat} {kids : List Ex} (h : KidsAt w d a c kids) : ∀ e ∈ kids, e.fit := by
  intro e he
  cases d with
  | zero => exact h.elim
  | succ d =>
    obtain ⟨i, hi, rfl⟩ := List.mem_iff_getElem.1 he
    obtain ⟨_, _, _, _, _, _, _, hf, _⟩ := h.spot hi
    exact hf

theorem wtL_get {l : List Ex} {k : Nat} (h : k < l.length) : l[k].wt ≤ wtL l := by
  have h1 := wtL_take l k h
  have h2 := wtL_mono l (k + 1)
  omega

set_option maxHeartbeats 1000000 in
theorem toKids (d : Nat) (ih : ToP d) (a : Option Addr) (c : Nat) (xs : List Ex) (w : World) (hx : KidsAt w (d + 1) a c xs) (hn : xs.length + wtL xs ≤ 1048576) :
    Calls Tryz.prog 28 #[.slice a xs.length c] w (NewKids w (d + 1) xs) := by
  obtain ⟨i0, hi0, hz0, hz1, hz2⟩ := info_parts Tryz.infoExpr
  have hb16 : i0.bytes * xs.length ≤ 281474976710656 := by rw [hz2]; omega
  have hfits := Lib.hid hx.fits
  have hl := hx.len
  go_enter Tryz.func28, Tryz.ntmps28
  go_wp2_with (at_make; refine wpList_make_full _ rfl _ _ 30 rfl w.heap.size 66 i0 (.agg #[.int .i64 0, .string ByteArray.empty, .int .i64 0, .slice none 0 0]) 4 Tryz.underlying30 hi0 hz0 hz1 .i64 .i64 _ _ xs.length rfl rfl rfl rfl hb16 (by unfold maxLen; omega) (Nat.le_refl _) ?_; intro w1 hown hg)
  have hown1 : Done w d xs [] w1 := by
    refine ⟨Nat.zero_le _, fun j h => by simp at h, ?_, ?_, (Below.refl _ _).grown hg (Nat.le_refl _) (fun k hk => by cases hk)⟩
    · unfold efill
      rw [List.nil_append, List.length_nil, Nat.sub_zero, ecells_none]
      exact hown
    · rcases hown.2 with ⟨h, _⟩ | ⟨g, cap, cur, hv, _, hgg, _⟩
      · cases h
      · simp only [Value.slice.injEq, Option.some.injEq, Addr.mk.injEq] at hv
        rcases Nat.lt_or_ge w.heap.size w1.heap.size with h | h
        · exact h
        · rw [← hv.1.1, Array.getElem?_eq_none h] at hgg; cases hgg
  clear hown hg
  go_loopw [4] (fun i wr => ∃ done : List Es, i = .int .i64 done.length ∧ Done w d xs done wr) (fun i _ => xs.length - (intOf i).toNat)
  case atStart => exact ⟨[], rfl, hown1⟩
  case round =>
    obtain ⟨done, rfl, hd⟩ := hrel
    by_cases hlt : done.length < xs.length
    · obtain ⟨b, off, rfl, hbl, hc0, hc1, hc2, hfit, a', c', hc3, hkid⟩ := (hx.below hd.2.2.2.2).spot hlt
      have HK := Lib.hid hkid
      have HD := Lib.hid hd
      clear hkid hx hd
      go_wp2_with fail
      refine (ih xs[done.length] a' c' _ hfit (Nat.le_trans (wtL_get hlt) (by omega)) HK.out).mono ?_
      rintro e w2 ⟨a2, c2, rfl, hk2, hb2⟩
      have hown2 : w2.ownsRow w.heap.size 66 4 (.slice (some ⟨w.heap.size, 0, none⟩) xs.length xs.length) xs.length (efill done xs.length) := World.ownsRow.kept (row := none) HD.out.2.2.1 ⟨hb2.os, hb2.tape, hb2.output, hb2.size, fun k hk _ => hb2.block k hk⟩ (.inr (fun e => by cases e))
      obtain ⟨hs0, hs1, hs2, hs3⟩ := efill_at done xs.length hlt
      have hd0 : w2.cell? ⟨w.heap.size, done.length * 4, none⟩ = some (.int .i64 0) := (hown2.cellAt _ (by omega)).trans hs0
      have hd1 : w2.cell? ⟨w.heap.size, done.length * 4 + 1, none⟩ = some (.string ByteArray.empty) := (hown2.cellAt _ (by omega)).trans hs1
      have hd2 : w2.cell? ⟨w.heap.size, done.length * 4 + 2, none⟩ = some (.int .i64 0) := (hown2.cellAt _ (by omega)).trans hs2
      have hd3 : w2.cell? ⟨w.heap.size, done.length * 4 + 3, none⟩ = some (.slice none 0 0) := (hown2.cellAt _ (by omega)).trans hs3
      have hf0 : w2.frozen? ⟨w.heap.size, done.length * 4, none⟩ = false := hown2.frozenAt _
      have hf1 : w2.frozen? ⟨w.heap.size, done.length * 4 + 1, none⟩ = false := hown2.frozenAt _
      have hf2 : w2.frozen? ⟨w.heap.size, done.length * 4 + 2, none⟩ = false := hown2.frozenAt _
      have hf3 : w2.frozen? ⟨w.heap.size, done.length * 4 + 3, none⟩ = false := hown2.frozenAt _
      have HS := Lib.hid (HD.out.step hlt hk2 hb2 rfl)
      clear hown2 hs0 hs1 hs2 hs3 hc0 hc1 hc2 hc3 hbl hk2 hb2 HD HK
      go_wp2_with fail
      go_roundw
      case rel => exact ⟨done ++ [⟨xs[done.length], a2, c2⟩], by simp, HS.out⟩
      case measure => simp [intOf]; omega
    · have hle := hd.1
      have hee : done.length = xs.length := by omega
      have HE := Lib.hid (hd.end hee (by unfold maxLen; omega) hfits.out)
      have hbl := hd.2.2.2.2
      clear hd
      go_wp2_with fail
      go_ret
      exact ⟨_, _, rfl, HE.out, hbl⟩

set_option maxHeartbeats 1000000 in
theorem toEx : ∀ d, ToP d
  | 0 => fun _ _ _ _ _ _ h => h.elim
  | d + 1 => by
    intro e a c w hfit hwt hk
    have hks := toKids d (toEx d) a c e.kids
    have hw := Ex.wt_eq e
    have HK := Lib.hid (fun w' (hb : Below w.heap.size w w') => hk.below hb)
    clear hk
    go_enter Tryz.func71, Tryz.ntmps71
    go_wp2_with fail
    refine (hks _ (HK.out _ ?_) (by omega)).mono ?_
    · exact (((Below.refl _ _).alloc (Nat.le_refl _) _).alloc (by simp) _).alloc (by simp; omega) _
    rintro x w2 ⟨a2, c2, rfl, hk2, hb2⟩
    have hB : Below w.heap.size w w2 := ((((Below.refl _ _).alloc (Nat.le_refl _) _).alloc (by simp) _).alloc (by simp; omega) _).trans (hb2.mono (by simp; omega))
    obtain ⟨hcw, hfw⟩ := bcellE hb2
    have g0 : w2.cell? ⟨w.heap.size + 1 + 1, 0, none⟩ = some (.int .i64 e.kind) := (hcw _ _ (by simp)).trans (by simp [go_sem])
    have g1 : w2.cell? ⟨w.heap.size + 1 + 1, 1, none⟩ = some (.string e.text) := (hcw _ _ (by simp)).trans (by simp [go_sem])
    have g2 : w2.cell? ⟨w.heap.size + 1 + 1, 2, none⟩ = some (.int .i64 e.num) := (hcw _ _ (by simp)).trans (by simp [go_sem])
    have g3 : w2.cell? ⟨w.heap.size + 1 + 1, 3, none⟩ = some (.slice none 0 0) := (hcw _ _ (by simp)).trans (by simp [go_sem])
    have z3 : w2.frozen? ⟨w.heap.size + 1 + 1, 3, none⟩ = false := (hfw _ _ (by simp)).trans (by simp [go_sem])
    have y0 : w2.cell? ⟨w.heap.size + 1, 0, none⟩ = some (.int .i64 0) := (hcw _ _ (by simp)).trans (by simp [go_sem])
    have y1 : w2.cell? ⟨w.heap.size + 1, 1, none⟩ = some (.string ByteArray.empty) := (hcw _ _ (by simp)).trans (by simp [go_sem]; rfl)
    have y2 : w2.cell? ⟨w.heap.size + 1, 2, none⟩ = some (.int .i64 0) := (hcw _ _ (by simp)).trans (by simp [go_sem])
    have y3 : w2.cell? ⟨w.heap.size + 1, 3, none⟩ = some (.slice none 0 0) := (hcw _ _ (by simp)).trans (by simp [go_sem])
    have x0 : w2.frozen? ⟨w.heap.size + 1, 0, none⟩ = false := (hfw _ _ (by simp)).trans (by simp [go_sem])
    have x1 : w2.frozen? ⟨w.heap.size + 1, 1, none⟩ = false := (hfw _ _ (by simp)).trans (by simp [go_sem])
    have x2 : w2.frozen? ⟨w.heap.size + 1, 2, none⟩ = false := (hfw _ _ (by simp)).trans (by simp [go_sem])
    have x3 : w2.frozen? ⟨w.heap.size + 1, 3, none⟩ = false := (hfw _ _ (by simp)).trans (by simp [go_sem])
    have HE : Hid (∀ w5 : World, w2.heap.size ≤ w5.heap.size → (∀ b, w.heap.size + 3 ≤ b → ∀ o, w5.cell? ⟨b, o, none⟩ = w2.cell? ⟨b, o, none⟩) → KidsB w.heap.size w5 (d + 1) a2 c2 e.kids) := by
      intro w5 h1 h2
      refine KidsB.lower (lo := w.heap.size + 1 + 1 + 1) (by omega) (KidsB.agree (w := w2) h1 (fun b hb _ o => h2 b hb o) (by simpa using hk2))
    have HB := Lib.hid hB
    clear hk2 hb2 hB hcw hfw
    go_wp2_with fail
    refine bodyPost_ret (v := .agg #[.int .i64 e.kind, .string e.text, .int .i64 e.num, .slice a2 e.kids.length c2]) (by simp [results, Tryz.results71, go_sem, *]) rfl ⟨_, _, rfl, HE.out _ (by simp [World.setCell]) ?_, ?_⟩
    · intro b hb o
      have ho : ∀ (wv : World) (q : Addr) (v : Value), q.block < w.heap.size + 3 → (wv.setCell q v).cell? ⟨b, o, none⟩ = wv.cell? ⟨b, o, none⟩ := fun wv q v hq => World.cell?_setCell_other _ _ _ _ (by intro h; subst h; simp at hq; omega)
      exact (ho _ _ _ (by simp)).trans ((ho _ _ _ (by simp)).trans ((ho _ _ _ (by simp)).trans ((ho _ _ _ (by simp)).trans (ho _ _ _ (by simp)))))
    · exact ((((HB.out.setCell (by simp; omega) _).setCell (by simp) _).setCell (by simp) _).setCell (by simp) _).setCell (by simp) _

end Go.Proofs.YtpdcmmhhgnackaaGreatDoor

namespace Go.Proofs.YtpdcmmhhgnackaaGreatDoor
open Go.RowKit

set_option maxHeartbeats 1000000 in
theorem specKids (k : Int) (w : World) (v : Int) (hv : kidsK k = v) :
    Calls Tryz.prog 134 #[.int .i64 k] w fun e w' => e = .returned (.int .i64 v) ∧ w = w' := by
  unfold kidsK at hv
  by_cases h1 : k < 0 ∨ 18 < k
  · rw [if_pos h1] at hv
    subst hv
    have H1 : Hid (inI k 0 18 = false) := by unfold Hid inI; simp; omega
    clear h1
    go_enter Tryz.func134, Tryz.ntmps134
    go_wp2_with (go_at_call 66; refine (specInIs _ 0 18 _ false H1.out).mono ?_; rintro e w' ⟨rfl, rfl⟩)
    go_ret
    exact ⟨rfl, rfl⟩
  · rw [if_neg h1] at hv
    have H1 : Hid (inI k 0 18 = true) := by unfold Hid inI; simp; omega
    by_cases h5 : k ≤ 5
    · rw [if_pos h5] at hv
      subst hv
      clear h1
      go_enter Tryz.func134, Tryz.ntmps134
      go_wp2_with (go_at_call 66; refine (specInIs _ 0 18 _ true H1.out).mono ?_; rintro e w' ⟨rfl, rfl⟩)
      go_ret
      exact ⟨rfl, rfl⟩
    · rw [if_neg h5] at hv
      by_cases h7 : k ≤ 7
      · rw [if_pos h7] at hv
        subst hv
        clear h1
        go_enter Tryz.func134, Tryz.ntmps134
        go_wp2_with (go_at_call 66; refine (specInIs _ 0 18 _ true H1.out).mono ?_; rintro e w' ⟨rfl, rfl⟩)
        go_ret
        exact ⟨rfl, rfl⟩
      · rw [if_neg h7] at hv
        subst hv
        clear h1
        go_enter Tryz.func134, Tryz.ntmps134
        go_wp2_with (go_at_call 66; refine (specInIs _ 0 18 _ true H1.out).mono ?_; rintro e w' ⟨rfl, rfl⟩)
        go_ret
        exact ⟨rfl, rfl⟩

theorem specKidsQ (k : Int) (w : World) (v : Int) (hv : kidsK k = v) :
    Calls Tryz.prog 134 #[.int .i64 k] w fun e w' => e = .returned (.int .i64 v) ∧ w' = w := (specKids k w v hv).mono fun _ _ h => ⟨h.1, h.2.symm⟩

def ShapeP (d : Nat) : Prop := ∀ (k : Int) (t : ByteArray) (n : Int) (kids : List Ex) (a : Option Addr) (c : Nat) (w : World), t.size ≤ 1048576 → wtL kids ≤ 1048576 → KidsAt w d a c kids →
  Calls Tryz.prog 109 #[.agg #[.int .i64 k, .string t, .int .i64 n, .slice a kids.length c]] w fun x w' => x = .returned (.bool (shapeE (.mk k t n kids))) ∧ Below w.heap.size w w'

theorem shape_eq (k : Int) (t : ByteArray) (n : Int) (kids : List Ex) : shapeE (.mk k t n kids) = (node1 k t n kids.length && shapeL kids) := by rw [shapeE]

theorem shapeL_drop (l : List Ex) (k : Nat) (h : k < l.length) : shapeL (l.drop k) = (shapeE l[k] && shapeL (l.drop (k + 1))) := by
  rw [List.drop_eq_getElem_cons h, shapeL]

theorem Ex.eta (e : Ex) : e = .mk e.kind e.text e.num e.kids := by cases e; rfl

/-- The cells of the argument's own box. -/
structure BoxK (w : World) (k : Int) (t : ByteArray) (n : Int) (a : Option Addr) (l c : Nat) (w1 : World) : Prop where
  lt : w.heap.size < w1.heap.size
  c0 : w1.cell? ⟨w.heap.size, 0, none⟩ = some (.int .i64 k)
  c1 : w1.cell? ⟨w.heap.size, 1, none⟩ = some (.string t)
  c2 : w1.cell? ⟨w.heap.size, 2, none⟩ = some (.int .i64 n)
  c3 : w1.cell? ⟨w.heap.size, 3, none⟩ = some (.slice a l c)
  bel : Below w.heap.size w w1

theorem boxK_new (w : World) (k : Int) (t : ByteArray) (n : Int) (a : Option Addr) (l c : Nat) (T : TypeId) : BoxK w k t n a l c (w.alloc (.cells #[.int .i64 k, .string t, .int .i64 n, .slice a l c] T)) :=
  ⟨by simp, by simp [go_sem], by simp [go_sem], by simp [go_sem], by simp [go_sem], (Below.refl _ _).alloc (Nat.le_refl _) _⟩

theorem BoxK.below {w w1 w2 : World} {k : Int} {t : ByteArray} {n : Int} {a : Option Addr} {l c : Nat} (h : BoxK w k t n a l c w1) (hb : Below w1.heap.size w1 w2) : BoxK w k t n a l c w2 :=
  ⟨Nat.lt_of_lt_of_le h.lt hb.size, (hb.cell (p := ⟨w.heap.size, 0, none⟩) h.lt).trans h.c0, (hb.cell (p := ⟨w.heap.size, 1, none⟩) h.lt).trans h.c1, (hb.cell (p := ⟨w.heap.size, 2, none⟩) h.lt).trans h.c2, (hb.cell (p := ⟨w.heap.size, 3, none⟩) h.lt).trans h.c3, h.bel.trans (hb.mono h.bel.size)⟩

theorem BoxK.drewN {w w1 : World} {k : Int} {t : ByteArray} {n : Int} {a : Option Addr} {l c : Nat} (h : BoxK w k t n a l c w1) (m : Nat) : BoxK w k t n a l c (w1.drewN m) := h.below (below_drewN (Below.refl _ _) m)

set_option maxRecDepth 100000 in
set_option maxHeartbeats 4000000 in
theorem specShape : ∀ d, ShapeP d
  | 0 => fun _ _ _ _ _ _ _ _ _ h => h.elim
  | d + 1 => by
    intro k t n kids a c w ht hwt hk
    have ih := specShape d
    have hl := hk.len
    have HK := Lib.hid (fun w' hb => hk.below (w' := w') hb)
    have HSE := Lib.hid (shape_eq k t n kids)
    have HBX := Lib.hid (fun T m => (boxK_new w k t n a kids.length c T).drewN m)
    have ht9 : t.size ≤ 9223372036854775807 := by omega
    clear hk
    by_cases hlen : (kids.length : Int) = kidsK k
    · have hin : 0 ≤ k ∧ k ≤ 18 := by unfold kidsK at hlen; split at hlen <;> omega
      have hne : (((kids.length : Int)) != kidsK k) = false := by simp; exact hlen
      have HLn := Lib.hid hlen
      by_cases k0 : k = 0
      · subst k0
        generalize hkk : kidsK 0 = m at hne
        cases hnm : nameB t.data.toList with
        | false =>
          have HNM := Lib.hid hnm
          have HN1 : Hid (node1 0 t n kids.length = false) := by unfold Hid node1; rw [if_pos rfl, hnm]; simp
          clear hnm
          go_enter Tryz.func109, Tryz.ntmps109
          go_wp2_with fail
          go_quiet ((go_at_call 134; exact Calls.quiet_of_same (specKidsQ 0 _ _ hkk)))
          have BX := HBX.out 66 nq
          generalize World.drewN (w.alloc (.cells #[.int .i64 0, .string t, .int .i64 n, .slice a kids.length c] 66)) nq = W1 at BX ⊢
          obtain ⟨hW1, c0, c1, c2, c3, bW1⟩ := BX
          go_wp2_with (go_at_call 59; refine (specNameOk t _ ht _ HNM.out).mono ?_; rintro e w1 ⟨rfl, rfl⟩)
          go_ret
          exact ⟨by rw [HSE.out, HN1.out]; rfl, bW1⟩
        | true =>
          have HNM := Lib.hid hnm
          by_cases hn0 : n = 0
          · subst hn0
            have HN1 : Hid (node1 0 t 0 kids.length = true) := by unfold Hid node1; rw [if_pos rfl, hnm, decide_eq_true HLn.out]; rfl
            clear hnm
            go_enter Tryz.func109, Tryz.ntmps109
            go_wp2_with fail
            go_quiet ((go_at_call 134; exact Calls.quiet_of_same (specKidsQ 0 _ _ hkk)))
            have BX := HBX.out 66 nq
            generalize World.drewN (w.alloc (.cells #[.int .i64 0, .string t, .int .i64 0, .slice a kids.length c] 66)) nq = W1 at BX ⊢
            obtain ⟨hW1, c0, c1, c2, c3, bW1⟩ := BX
            go_wp2_with (go_at_call 59; refine (specNameOk t _ ht _ HNM.out).mono ?_; rintro e w1 ⟨rfl, rfl⟩)
            go_loopw [3] (fun i wr => ∃ j : Nat, j ≤ kids.length ∧ i = .int .i64 j ∧ Hid (BoxK w 0 t 0 a kids.length c wr) ∧ Hid (shapeL kids = shapeL (kids.drop j))) (fun i _ => kids.length - (intOf i).toNat)
            case atStart => exact ⟨0, Nat.zero_le _, rfl, ⟨hW1, c0, c1, c2, c3, bW1⟩, rfl⟩
            case round =>
              obtain ⟨j, hj, rfl, BX2, HD⟩ := hrel
              obtain ⟨hW2, c0', c1', c2', c3', bW2⟩ := BX2.out
              by_cases hlt : j < kids.length
              · obtain ⟨b, off, rfl, hbl, d0, d1, d2, hfit, a', c', d3, hkid⟩ := (HK.out _ bW2).spot hlt
                have HT := Lib.hid (shapeL_drop kids j hlt)
                have HX := Lib.hid hkid
                have HG := Lib.hid (wtL_get hlt)
                have HE := Lib.hid (Ex.eta kids[j])
                have HW := Lib.hid (Ex.wt_eq kids[j])
                clear hkid
                go_wp2_with fail
                refine (ih kids[j].kind kids[j].text kids[j].num kids[j].kids a' c' _ (by have := HG.out; have := HW.out; omega) (by have := HG.out; have := HW.out; omega) HX.out).mono ?_
                rw [← HE.out]
                rintro x w2 ⟨rfl, hb2⟩
                have BX3 := Lib.hid (BX2.out.below hb2)
                clear d0 d1 d2 d3 c0' c1' c2' c3' hb2
                cases hs : shapeE kids[j] with
                | true =>
                  have HS := Lib.hid hs
                  clear hs
                  go_wp2_with fail
                  go_roundw
                  case rel => exact ⟨j + 1, by omega, by go_num, BX3, by unfold Hid; rw [HD.out, HT.out, HS.out, Bool.true_and]⟩
                  case measure => simp [intOf]; omega
                | false =>
                  have HS := Lib.hid hs
                  clear hs
                  go_wp2_with fail
                  go_ret
                  exact ⟨by rw [HSE.out, HD.out, HT.out, HS.out]; simp, BX3.out.bel⟩
              · obtain rfl : j = kids.length := by omega
                go_wp2_with fail
                go_ret
                exact ⟨by rw [HSE.out, HN1.out, HD.out, List.drop_length]; rfl, bW2⟩
          · have HN1 : Hid (node1 0 t n kids.length = false) := by unfold Hid node1; rw [if_neg (show ¬ (0 : Int) = 1 by omega), decide_eq_false hn0]; simp
            have hnb : (n != 0) = true := by simp; exact hn0
            clear hnm hn0
            go_enter Tryz.func109, Tryz.ntmps109
            go_wp2_with fail
            go_quiet ((go_at_call 134; exact Calls.quiet_of_same (specKidsQ 0 _ _ hkk)))
            have BX := HBX.out 66 nq
            generalize World.drewN (w.alloc (.cells #[.int .i64 0, .string t, .int .i64 n, .slice a kids.length c] 66)) nq = W1 at BX ⊢
            obtain ⟨hW1, c0, c1, c2, c3, bW1⟩ := BX
            go_wp2_with (go_at_call 59; refine (specNameOk t _ ht _ HNM.out).mono ?_; rintro e w1 ⟨rfl, rfl⟩)
            go_ret
            exact ⟨by rw [HSE.out, HN1.out]; rfl, bW1⟩
      by_cases k1 : k = 1
      · subst k1
        generalize hkk : kidsK 1 = m at hne
        cases htx : t.toList.isEmpty with
        | false =>
          have htb : (!t.toList.isEmpty) = true := by rw [htx]; rfl
          have HN1 : Hid (node1 1 t n kids.length = false) := by unfold Hid node1; rw [if_neg (by omega), if_neg (by omega), htx]; simp
          clear htx
          go_enter Tryz.func109, Tryz.ntmps109
          go_wp2_with fail
          go_quiet ((go_at_call 134; exact Calls.quiet_of_same (specKidsQ 1 _ _ hkk)))
          have BX := HBX.out 66 nq
          generalize World.drewN (w.alloc (.cells #[.int .i64 1, .string t, .int .i64 n, .slice a kids.length c] 66)) nq = W1 at BX ⊢
          obtain ⟨hW1, c0, c1, c2, c3, bW1⟩ := BX
          go_wp2_with fail
          go_ret
          exact ⟨by rw [HSE.out, HN1.out]; rfl, bW1⟩
        | true =>
          have htb : (!t.toList.isEmpty) = false := by rw [htx]; rfl
          cases hin1 : inI n 0 999999999 with
          | true =>
            have HIN := Lib.hid hin1
            have HN1 : Hid (node1 1 t n kids.length = true) := by unfold Hid node1; rw [if_neg (by omega), if_neg (by omega), if_pos rfl, htx, decide_eq_true HLn.out]; unfold inI at hin1; simpa using hin1
            clear htx hin1
            go_enter Tryz.func109, Tryz.ntmps109
            go_wp2_with fail
            go_quiet ((go_at_call 134; exact Calls.quiet_of_same (specKidsQ 1 _ _ hkk)))
            have BX := HBX.out 66 nq
            generalize World.drewN (w.alloc (.cells #[.int .i64 1, .string t, .int .i64 n, .slice a kids.length c] 66)) nq = W1 at BX ⊢
            obtain ⟨hW1, c0, c1, c2, c3, bW1⟩ := BX
            go_wp2_with (go_at_call 66; refine (specInIs _ 0 999999999 _ _ HIN.out).mono ?_; rintro e w1 ⟨rfl, rfl⟩)
            go_loopw [3] (fun i wr => ∃ j : Nat, j ≤ kids.length ∧ i = .int .i64 j ∧ Hid (BoxK w 1 t n a kids.length c wr) ∧ Hid (shapeL kids = shapeL (kids.drop j))) (fun i _ => kids.length - (intOf i).toNat)
            case atStart => exact ⟨0, Nat.zero_le _, rfl, ⟨hW1, c0, c1, c2, c3, bW1⟩, rfl⟩
            case round =>
              obtain ⟨j, hj, rfl, BX2, HD⟩ := hrel
              obtain ⟨hW2, c0', c1', c2', c3', bW2⟩ := BX2.out
              by_cases hlt : j < kids.length
              · obtain ⟨b, off, rfl, hbl, d0, d1, d2, hfit, a', c', d3, hkid⟩ := (HK.out _ bW2).spot hlt
                have HT := Lib.hid (shapeL_drop kids j hlt)
                have HX := Lib.hid hkid
                have HG := Lib.hid (wtL_get hlt)
                have HE := Lib.hid (Ex.eta kids[j])
                have HW := Lib.hid (Ex.wt_eq kids[j])
                clear hkid
                go_wp2_with fail
                refine (ih kids[j].kind kids[j].text kids[j].num kids[j].kids a' c' _ (by have := HG.out; have := HW.out; omega) (by have := HG.out; have := HW.out; omega) HX.out).mono ?_
                rw [← HE.out]
                rintro x w2 ⟨rfl, hb2⟩
                have BX3 := Lib.hid (BX2.out.below hb2)
                clear d0 d1 d2 d3 c0' c1' c2' c3' hb2
                cases hs : shapeE kids[j] with
                | true =>
                  have HS := Lib.hid hs
                  clear hs
                  go_wp2_with fail
                  go_roundw
                  case rel => exact ⟨j + 1, by omega, by go_num, BX3, by unfold Hid; rw [HD.out, HT.out, HS.out, Bool.true_and]⟩
                  case measure => simp [intOf]; omega
                | false =>
                  have HS := Lib.hid hs
                  clear hs
                  go_wp2_with fail
                  go_ret
                  exact ⟨by rw [HSE.out, HD.out, HT.out, HS.out]; simp, BX3.out.bel⟩
              · obtain rfl : j = kids.length := by omega
                go_wp2_with fail
                go_ret
                exact ⟨by rw [HSE.out, HN1.out, HD.out, List.drop_length]; rfl, bW2⟩
          | false =>
            have HIN := Lib.hid hin1
            have HN1 : Hid (node1 1 t n kids.length = false) := by unfold Hid node1; rw [if_neg (by omega), if_neg (by omega), if_pos rfl, show decide (0 ≤ n ∧ n ≤ 999999999) = false from decide_eq_false (by intro h; rw [show inI n 0 999999999 = true by unfold inI; simp; exact h] at hin1; cases hin1)]; simp
            clear htx hin1
            go_enter Tryz.func109, Tryz.ntmps109
            go_wp2_with fail
            go_quiet ((go_at_call 134; exact Calls.quiet_of_same (specKidsQ 1 _ _ hkk)))
            have BX := HBX.out 66 nq
            generalize World.drewN (w.alloc (.cells #[.int .i64 1, .string t, .int .i64 n, .slice a kids.length c] 66)) nq = W1 at BX ⊢
            obtain ⟨hW1, c0, c1, c2, c3, bW1⟩ := BX
            go_wp2_with (go_at_call 66; refine (specInIs _ 0 999999999 _ _ HIN.out).mono ?_; rintro e w1 ⟨rfl, rfl⟩)
            go_ret
            exact ⟨by rw [HSE.out, HN1.out]; rfl, bW1⟩
      by_cases k2 : k = 2
      · subst k2
        generalize hkk : kidsK 2 = m at hne
        by_cases htx : t.size ≤ 100
        · by_cases hn0 : n = 0
          · subst hn0
            have HN1 : Hid (node1 2 t 0 kids.length = true) := by unfold Hid node1; rw [if_neg (by omega), if_pos rfl, if_neg (by omega), decide_eq_true htx, decide_eq_true HLn.out]; rfl
            go_enter Tryz.func109, Tryz.ntmps109
            go_wp2_with fail
            go_quiet ((go_at_call 134; exact Calls.quiet_of_same (specKidsQ 2 _ _ hkk)))
            have BX := HBX.out 66 nq
            generalize World.drewN (w.alloc (.cells #[.int .i64 2, .string t, .int .i64 0, .slice a kids.length c] 66)) nq = W1 at BX ⊢
            obtain ⟨hW1, c0, c1, c2, c3, bW1⟩ := BX
            go_wp2_with fail
            go_loopw [3] (fun i wr => ∃ j : Nat, j ≤ kids.length ∧ i = .int .i64 j ∧ Hid (BoxK w 2 t 0 a kids.length c wr) ∧ Hid (shapeL kids = shapeL (kids.drop j))) (fun i _ => kids.length - (intOf i).toNat)
            case atStart => exact ⟨0, Nat.zero_le _, rfl, ⟨hW1, c0, c1, c2, c3, bW1⟩, rfl⟩
            case round =>
              obtain ⟨j, hj, rfl, BX2, HD⟩ := hrel
              obtain ⟨hW2, c0', c1', c2', c3', bW2⟩ := BX2.out
              by_cases hlt : j < kids.length
              · obtain ⟨b, off, rfl, hbl, d0, d1, d2, hfit, a', c', d3, hkid⟩ := (HK.out _ bW2).spot hlt
                have HT := Lib.hid (shapeL_drop kids j hlt)
                have HX := Lib.hid hkid
                have HG := Lib.hid (wtL_get hlt)
                have HE := Lib.hid (Ex.eta kids[j])
                have HW := Lib.hid (Ex.wt_eq kids[j])
                clear hkid
                go_wp2_with fail
                refine (ih kids[j].kind kids[j].text kids[j].num kids[j].kids a' c' _ (by have := HG.out; have := HW.out; omega) (by have := HG.out; have := HW.out; omega) HX.out).mono ?_
                rw [← HE.out]
                rintro x w2 ⟨rfl, hb2⟩
                have BX3 := Lib.hid (BX2.out.below hb2)
                clear d0 d1 d2 d3 c0' c1' c2' c3' hb2
                cases hs : shapeE kids[j] with
                | true =>
                  have HS := Lib.hid hs
                  clear hs
                  go_wp2_with fail
                  go_roundw
                  case rel => exact ⟨j + 1, by omega, by go_num, BX3, by unfold Hid; rw [HD.out, HT.out, HS.out, Bool.true_and]⟩
                  case measure => simp [intOf]; omega
                | false =>
                  have HS := Lib.hid hs
                  clear hs
                  go_wp2_with fail
                  go_ret
                  exact ⟨by rw [HSE.out, HD.out, HT.out, HS.out]; simp, BX3.out.bel⟩
              · obtain rfl : j = kids.length := by omega
                go_wp2_with fail
                go_ret
                exact ⟨by rw [HSE.out, HN1.out, HD.out, List.drop_length]; rfl, bW2⟩
          · have HN1 : Hid (node1 2 t n kids.length = false) := by unfold Hid node1; rw [if_neg (show ¬ (2 : Int) = 1 by omega), decide_eq_false hn0]; simp
            have hnb : (n != 0) = true := by simp; exact hn0
            clear hn0
            go_enter Tryz.func109, Tryz.ntmps109
            go_wp2_with fail
            go_quiet ((go_at_call 134; exact Calls.quiet_of_same (specKidsQ 2 _ _ hkk)))
            have BX := HBX.out 66 nq
            generalize World.drewN (w.alloc (.cells #[.int .i64 2, .string t, .int .i64 n, .slice a kids.length c] 66)) nq = W1 at BX ⊢
            obtain ⟨hW1, c0, c1, c2, c3, bW1⟩ := BX
            go_wp2_with fail
            go_ret
            exact ⟨by rw [HSE.out, HN1.out]; rfl, bW1⟩
        · have HN1 : Hid (node1 2 t n kids.length = false) := by unfold Hid node1; rw [if_neg (by omega), if_pos rfl, decide_eq_false htx]; simp
          go_enter Tryz.func109, Tryz.ntmps109
          go_wp2_with fail
          go_quiet ((go_at_call 134; exact Calls.quiet_of_same (specKidsQ 2 _ _ hkk)))
          have BX := HBX.out 66 nq
          generalize World.drewN (w.alloc (.cells #[.int .i64 2, .string t, .int .i64 n, .slice a kids.length c] 66)) nq = W1 at BX ⊢
          obtain ⟨hW1, c0, c1, c2, c3, bW1⟩ := BX
          go_wp2_with fail
          go_ret
          exact ⟨by rw [HSE.out, HN1.out]; rfl, bW1⟩
      have kb0 : (k == 0) = false := by simp; exact k0
      have kb1 : (k == 1) = false := by simp; exact k1
      have kb2 : (k == 2) = false := by simp; exact k2
      have kb3 : (k != 1) = true := by simp; exact k1
      generalize hkk : kidsK k = m at hne
      cases htx : t.toList.isEmpty with
      | false =>
        have htb : (!t.toList.isEmpty) = true := by rw [htx]; rfl
        have HN1 : Hid (node1 k t n kids.length = false) := by unfold Hid node1; rw [if_neg k0, if_neg k2, htx]; simp
        clear htx k0 k1 k2
        go_enter Tryz.func109, Tryz.ntmps109
        go_wp2_with fail
        go_quiet ((go_at_call 134; exact Calls.quiet_of_same (specKidsQ k _ _ hkk)))
        have BX := HBX.out 66 nq
        generalize World.drewN (w.alloc (.cells #[.int .i64 k, .string t, .int .i64 n, .slice a kids.length c] 66)) nq = W1 at BX ⊢
        obtain ⟨hW1, c0, c1, c2, c3, bW1⟩ := BX
        go_wp2_with fail
        go_ret
        exact ⟨by rw [HSE.out, HN1.out]; rfl, bW1⟩
      | true =>
        have htb : (!t.toList.isEmpty) = false := by rw [htx]; rfl
        by_cases hn0 : n = 0
        · subst hn0
          have HN1 : Hid (node1 k t 0 kids.length = true) := by unfold Hid node1; rw [if_neg k0, if_neg k2, if_neg k1, htx, decide_eq_true HLn.out]; rfl
          clear htx k0 k1 k2
          go_enter Tryz.func109, Tryz.ntmps109
          go_wp2_with fail
          go_quiet ((go_at_call 134; exact Calls.quiet_of_same (specKidsQ k _ _ hkk)))
          have BX := HBX.out 66 nq
          generalize World.drewN (w.alloc (.cells #[.int .i64 k, .string t, .int .i64 0, .slice a kids.length c] 66)) nq = W1 at BX ⊢
          obtain ⟨hW1, c0, c1, c2, c3, bW1⟩ := BX
          go_wp2_with fail
          go_loopw [3] (fun i wr => ∃ j : Nat, j ≤ kids.length ∧ i = .int .i64 j ∧ Hid (BoxK w k t 0 a kids.length c wr) ∧ Hid (shapeL kids = shapeL (kids.drop j))) (fun i _ => kids.length - (intOf i).toNat)
          case atStart => exact ⟨0, Nat.zero_le _, rfl, ⟨hW1, c0, c1, c2, c3, bW1⟩, rfl⟩
          case round =>
            obtain ⟨j, hj, rfl, BX2, HD⟩ := hrel
            obtain ⟨hW2, c0', c1', c2', c3', bW2⟩ := BX2.out
            by_cases hlt : j < kids.length
            · obtain ⟨b, off, rfl, hbl, d0, d1, d2, hfit, a', c', d3, hkid⟩ := (HK.out _ bW2).spot hlt
              have HT := Lib.hid (shapeL_drop kids j hlt)
              have HX := Lib.hid hkid
              have HG := Lib.hid (wtL_get hlt)
              have HE := Lib.hid (Ex.eta kids[j])
              have HW := Lib.hid (Ex.wt_eq kids[j])
              clear hkid
              go_wp2_with fail
              refine (ih kids[j].kind kids[j].text kids[j].num kids[j].kids a' c' _ (by have := HG.out; have := HW.out; omega) (by have := HG.out; have := HW.out; omega) HX.out).mono ?_
              rw [← HE.out]
              rintro x w2 ⟨rfl, hb2⟩
              have BX3 := Lib.hid (BX2.out.below hb2)
              clear d0 d1 d2 d3 c0' c1' c2' c3' hb2
              cases hs : shapeE kids[j] with
              | true =>
                have HS := Lib.hid hs
                clear hs
                go_wp2_with fail
                go_roundw
                case rel => exact ⟨j + 1, by omega, by go_num, BX3, by unfold Hid; rw [HD.out, HT.out, HS.out, Bool.true_and]⟩
                case measure => simp [intOf]; omega
              | false =>
                have HS := Lib.hid hs
                clear hs
                go_wp2_with fail
                go_ret
                exact ⟨by rw [HSE.out, HD.out, HT.out, HS.out]; simp, BX3.out.bel⟩
            · obtain rfl : j = kids.length := by omega
              go_wp2_with fail
              go_ret
              exact ⟨by rw [HSE.out, HN1.out, HD.out, List.drop_length]; rfl, bW2⟩
        · have HN1 : Hid (node1 k t n kids.length = false) := by unfold Hid node1; rw [if_neg k1, decide_eq_false hn0]; simp
          have hnb : (n != 0) = true := by simp; exact hn0
          clear htx hn0 k0 k1 k2
          go_enter Tryz.func109, Tryz.ntmps109
          go_wp2_with fail
          go_quiet ((go_at_call 134; exact Calls.quiet_of_same (specKidsQ k _ _ hkk)))
          have BX := HBX.out 66 nq
          generalize World.drewN (w.alloc (.cells #[.int .i64 k, .string t, .int .i64 n, .slice a kids.length c] 66)) nq = W1 at BX ⊢
          obtain ⟨hW1, c0, c1, c2, c3, bW1⟩ := BX
          go_wp2_with fail
          go_ret
          exact ⟨by rw [HSE.out, HN1.out]; rfl, bW1⟩
    · have HN1 : Hid (node1 k t n kids.length = false) := by
        unfold Hid node1; rw [decide_eq_false hlen]; rfl
      have hne : (((kids.length : Int)) != kidsK k) = true := by simp; exact hlen
      clear hlen
      generalize hkk : kidsK k = m at hne
      go_enter Tryz.func109, Tryz.ntmps109
      go_wp2_with fail
      go_quiet ((go_at_call 134; exact Calls.quiet_of_same (specKidsQ k _ _ hkk)))
      have BX := HBX.out 66 nq
      generalize World.drewN (w.alloc (.cells #[.int .i64 k, .string t, .int .i64 n, .slice a kids.length c] 66)) nq = W1 at BX ⊢
      obtain ⟨hW1, c0, c1, c2, c3, bW1⟩ := BX
      go_wp2_with fail
      go_ret
      exact ⟨by rw [HSE.out, HN1.out]; rfl, bW1⟩

end Go.Proofs.YtpdcmmhhgnackaaGreatDoor

namespace Go.Proofs.YtpdcmmhhgnackaaGreatDoor
open Go.RowKit

/-- An expression that is right. -/
def okX (e : Ex) : Bool := decide (e.nodes ≤ 40) && shapeE e

def nmB (s : ByteArray) : Bool := nameB s.data.toList

def namesB (xs : List ByteArray) (most : Int) : Bool := inI xs.length 1 most && xs.all nmB

def exprsB (xs : List Ex) (least most : Int) : Bool := inI xs.length least most && xs.all okX

def tyB (t : Ty) : Bool := typeOkB t.kind t.len t.name

def colB (x : Co) : Bool := nmB x.name && (tyB x.ty && exprsB x.dflt 0 1)

def noB (s : ByteArray) : Bool := s.toList.isEmpty

def ruleB (r : Ru) : Bool := nmB r.name &&
  (if r.kind = 0 ∨ r.kind = 1 then namesB r.cols 4 && (r.expr.isEmpty && (noB r.table && r.to.isEmpty))
   else if r.kind = 2 then r.cols.isEmpty && (exprsB r.expr 1 1 && (noB r.table && r.to.isEmpty))
   else if r.kind = 3 then namesB r.cols 4 && (r.expr.isEmpty && (nmB r.table && (namesB r.to 4 && (r.to.length == r.cols.length))))
   else false)

theorem all_take {X : Type} (f : X → Bool) (xs : List X) (k : Nat) (h : k < xs.length) : (xs.take (k + 1)).all f = ((xs.take k).all f && f xs[k]) := by
  rw [List.take_succ_eq_append_getElem h, List.all_append]
  simp

theorem all_hit {X : Type} (f : X → Bool) (xs : List X) (k : Nat) (h : k < xs.length) (hf : f xs[k] = false) : xs.all f = false := by
  rw [← Bool.not_eq_true, List.all_eq_true]
  intro hh
  have := hh _ (List.getElem_mem h)
  rw [hf] at this
  cases this

theorem all_miss {X : Type} (f : X → Bool) (xs : List X) (h : ∀ m (hm : m < xs.length), f xs[m] = true) : xs.all f = true := by
  rw [List.all_eq_true]
  intro x hx
  obtain ⟨m, hm, rfl⟩ := List.mem_iff_getElem.1 hx
  exact h m hm

theorem nmB_size {s : ByteArray} (h : nmB s = true) : s.size ≤ 40 := by
  unfold nmB nameB at h
  simp only [Bool.and_eq_true, decide_eq_true_eq] at h
  have := h.1.2
  simpa using this

theorem colB_parts {x : Co} (h : colB x = true) : nmB x.name = true ∧ tyB x.ty = true ∧ x.dflt.length ≤ 1 ∧ ∀ e ∈ x.dflt, okX e = true := by
  unfold colB exprsB inI at h
  simp only [Bool.and_eq_true, decide_eq_true_eq, List.all_eq_true] at h
  exact ⟨h.1, h.2.1, by omega, h.2.2.2⟩

end Go.Proofs.YtpdcmmhhgnackaaGreatDoor

namespace Go.Proofs.YtpdcmmhhgnackaaGreatDoor
open Go.ChangeShapes Go.WideShapes Go.RowKit

structure Fm where
  kids : Int
  strength : Int
  token : Int
  text : List UInt8

def formsL : List Fm := [⟨0, 7, 0, []⟩, ⟨0, 7, 0, []⟩, ⟨0, 7, 0, []⟩, ⟨0, 7, 0, wTrue⟩, ⟨0, 7, 0, wFalse⟩, ⟨0, 7, 0, wNull⟩, ⟨1, 3, 0, wNot⟩, ⟨1, 4, 0, wIs⟩, ⟨2, 2, 0, wAnd⟩, ⟨2, 1, 0, wOr⟩,
  ⟨2, 4, 4, [61]⟩, ⟨2, 4, 4, [60, 62]⟩, ⟨2, 4, 4, [60]⟩, ⟨2, 4, 4, [60, 61]⟩, ⟨2, 4, 4, [62]⟩, ⟨2, 4, 4, [62, 61]⟩, ⟨2, 5, 4, [43]⟩, ⟨2, 5, 4, [45]⟩, ⟨2, 6, 4, [42]⟩]

def Fm.d {H : Type} (f : Fm) : DataW H := .agg [.lit (.int .i64 f.kids), .lit (.int .i64 f.strength), .lit (.int .i64 f.token), .lit (.string f.text)]

theorem forms_laid : (Rows.laid_loop_example_g00751_impl_exprForms : DataW Unit) = .agg (formsL.map Fm.d) := rfl

theorem gForms : Tryz.prog.globalNamed "loop.example/g00751/impl.exprForms" = some 1 := by kernel_rfl
theorem gFormsType : (Tryz.prog.globals[1]?).map (·.type) = some 145 := by kernel_rfl
theorem cellsForms : Tryz.prog.cellsOf 145 = 76 := by kernel_rfl
theorem cellsForm : Tryz.prog.cellsOf 144 = 4 := by kernel_rfl
theorem cellsIntF : Tryz.prog.cellsOf 3 = 1 := by kernel_rfl
theorem cellsStrF : Tryz.prog.cellsOf 9 = 1 := by kernel_rfl

def fm (i : Nat) : Fm := formsL.getD i ⟨0, 0, 0, []⟩

/-- The table lies as the text lays it. -/
def FormsAt (w : World) : Prop := 1 < w.heap.size ∧ ∀ i, i < 19 →
  w.cell? ⟨1, i * 4, none⟩ = some (.int .i64 (fm i).kids) ∧ w.cell? ⟨1, i * 4 + 1, none⟩ = some (.int .i64 (fm i).strength) ∧
  w.cell? ⟨1, i * 4 + 2, none⟩ = some (.int .i64 (fm i).token) ∧ w.cell? ⟨1, i * 4 + 3, none⟩ = some (.string (txt (fm i).text))

theorem FormsAt.below {w w' : World} {B : Nat} (h : FormsAt w) (hb : Below B w w') (hB : 1 < B) : FormsAt w' := by
  refine ⟨Nat.lt_of_lt_of_le h.1 hb.size, fun i hi => ?_⟩
  obtain ⟨h0, h1, h2, h3⟩ := h.2 i hi
  have e := fun o => hb.cell (p := ⟨1, o, none⟩) hB
  exact ⟨(e _).trans h0, (e _).trans h1, (e _).trans h2, (e _).trans h3⟩

set_option maxRecDepth 100000 in
theorem form_cells {H : Type} {enc : TypeId × Value → H} {W : World} {base : Nat} {sp : Nat → Bool} {held : Bool} {fuel : Nat} {cs : List Value} {x : DataW H × List MemPlace} (h : DataW.trod enc Tryz.prog W base sp held fuel 144 cs = some x) {f : Fm} (hx : x.1 = f.d) :
    cs = [.int .i64 f.kids, .int .i64 f.strength, .int .i64 f.token, .string (txt f.text)] := by
  obtain ⟨ys, n, hn, hxe, hl, hyl, hf⟩ := DataW.trod_struct Tryz.underlying144 h
  subst hn
  rw [cellsForm] at hl
  match cs, hl with
  | [c0, c1, c2, c3], _ =>
    have hs : ys.length = 4 := hyl
    match ys, hs with
    | [y0, y1, y2, y3], _ =>
      have f0 : DataW.trod enc Tryz.prog W base sp held n 3 (([c0, c1, c2, c3].drop 0).take (Tryz.prog.cellsOf 3)) = some y0 := hf 0 _ rfl
      have f1 : DataW.trod enc Tryz.prog W base sp held n 3 (([c0, c1, c2, c3].drop 1).take (Tryz.prog.cellsOf 3)) = some y1 := hf 1 _ rfl
      have f2 : DataW.trod enc Tryz.prog W base sp held n 3 (([c0, c1, c2, c3].drop 2).take (Tryz.prog.cellsOf 3)) = some y2 := hf 2 _ rfl
      have f3 : DataW.trod enc Tryz.prog W base sp held n 9 (([c0, c1, c2, c3].drop 3).take (Tryz.prog.cellsOf 9)) = some y3 := hf 3 _ rfl
      rw [cellsIntF] at f0 f1 f2
      rw [cellsStrF] at f3
      obtain ⟨k0, e0, d0, _⟩ := DataW.trod_int Tryz.underlying3 f0
      obtain ⟨k1, e1, d1, _⟩ := DataW.trod_int Tryz.underlying3 f1
      obtain ⟨k2, e2, d2, _⟩ := DataW.trod_int Tryz.underlying3 f2
      obtain ⟨s, e3, d3, _⟩ := DataW.trod_string Tryz.underlying9 f3
      simp at e0 e1 e2 e3
      subst e0 e1 e2 e3 d0 d1 d2 d3
      rw [hxe] at hx
      simp only [List.map_cons, List.map_nil, Fm.d, DataW.agg.injEq, List.cons.injEq, DataW.lit.injEq, Lit.int.injEq, Lit.string.injEq, true_and, and_true] at hx
      obtain ⟨rfl, rfl, rfl, h3⟩ := hx
      have : s = txt f.text := by rw [← h3]; obtain ⟨⟨l⟩⟩ := s; rfl
      rw [this]

set_option maxRecDepth 100000 in
theorem formsAt_of {W : World} {rest : List (String × DataW Unit)} (h : laidMet Tryz.prog (("loop.example/g00751/impl.exprForms", Rows.laid_loop_example_g00751_impl_exprForms) :: rest) W) : FormsAt W := by
  obtain ⟨ps, hL, _, _⟩ := h
  obtain ⟨g, t, cs, fuel, p, q, h1, h2, h3, h4, _, _⟩ := hL
  obtain rfl := Option.some.inj (gForms.symm.trans h1)
  obtain rfl := Option.some.inj (gFormsType.symm.trans h2)
  obtain ⟨xs, m, hm, hx, hl, hxl, hel⟩ := DataW.trod_array Tryz.underlying145 h4
  have hd : xs.map (·.1) = formsL.map Fm.d := by
    have := congrArg Prod.fst hx
    rw [forms_laid] at this
    exact (DataW.agg.inj this).symm
  rw [cellsForms] at hl
  have hvar : ∀ o (ho : o < 76), W.cell? ⟨1, o, none⟩ = cs.toList[o]? := by
    intro o ho
    unfold World.var? at h3
    rw [gForms, Option.bind_some] at h3
    unfold World.cell?
    split at h3
    · rename_i c tt fr hb
      cases h3
      simp [hb]
    · cases h3
  have hlt : 1 < W.heap.size := by
    have h0 := hvar 0 (by omega)
    rw [List.getElem?_eq_getElem (by omega)] at h0
    exact World.block_lt_of_cell? W ⟨1, 0, none⟩ h0
  refine ⟨hlt, fun i hi => ?_⟩
  have hxi : i < xs.length := by omega
  have hfi : i < formsL.length := by have : formsL.length = 19 := rfl
                                     omega
  have he := hel i hi
  rw [cellsForm, List.getElem?_eq_getElem hxi] at he
  have hfm : fm i = formsL[i] := by unfold fm; rw [List.getD_eq_getElem?_getD, List.getElem?_eq_getElem hfi]; rfl
  have hdi : xs[i].1 = (fm i).d := by
    have : (xs.map (·.1))[i]? = (formsL.map Fm.d)[i]? := by rw [hd]
    rw [List.getElem?_map, List.getElem?_map, List.getElem?_eq_getElem hxi, List.getElem?_eq_getElem hfi] at this
    rw [hfm]
    simpa using this
  have hc := form_cells he hdi
  have at' : ∀ j, j < 4 → cs.toList[i * 4 + j]? = [Value.int .i64 (fm i).kids, .int .i64 (fm i).strength, .int .i64 (fm i).token, .string (txt (fm i).text)][j]? := by
    intro j hj
    rw [← hc, List.getElem?_take, if_pos hj, List.getElem?_drop]
  exact ⟨(hvar _ (by omega)).trans (at' 0 (by omega)), (hvar _ (by omega)).trans (at' 1 (by omega)), (hvar _ (by omega)).trans (at' 2 (by omega)), (hvar _ (by omega)).trans (at' 3 (by omega))⟩

end Go.Proofs.YtpdcmmhhgnackaaGreatDoor

namespace Go.Proofs.YtpdcmmhhgnackaaGreatDoor
open Go.ChangeShapes Go.WideShapes Go.RowKit

theorem laidDrop {P : Program} {W : World} : ∀ (n : Nat) {l : List (String × DataW Unit)}, laidMet P l W → laidMet P (l.drop n) W
  | 0, _, h => h
  | n + 1, [], h => h
  | n + 1, _ :: _, h => laidDrop n (laidMet.tail h)

structure Rf where
  start : List UInt8
  c0 : Int
  c1 : Int
  e0 : Int
  e1 : Int
  refers : Bool

def rulesL : List Rf := [⟨[112, 114, 105, 109, 97, 114, 121, 32, 107, 101, 121], 1, 4, 0, 0, false⟩, ⟨[117, 110, 105, 113, 117, 101], 1, 4, 0, 0, false⟩, ⟨[99, 104, 101, 99, 107], 0, 0, 1, 1, false⟩, ⟨[102, 111, 114, 101, 105, 103, 110, 32, 107, 101, 121], 1, 4, 0, 0, true⟩]

def Rf.d {H : Type} (f : Rf) : DataW H := .agg [.lit (.string f.start), .agg [.lit (.int .i64 f.c0), .lit (.int .i64 f.c1)], .agg [.lit (.int .i64 f.e0), .lit (.int .i64 f.e1)], .lit (.bool f.refers)]

theorem rules_laid : (Rows.laid_loop_example_g00751_impl_ruleForms : DataW Unit) = .agg (rulesL.map Rf.d) := rfl

theorem gRules : Tryz.prog.globalNamed "loop.example/g00751/impl.ruleForms" = some 0 := by kernel_rfl
theorem gRulesType : (Tryz.prog.globals[0]?).map (·.type) = some 83 := by kernel_rfl
theorem cellsRules : Tryz.prog.cellsOf 83 = 24 := by kernel_rfl
theorem cellsRuleF : Tryz.prog.cellsOf 82 = 6 := by kernel_rfl
theorem cellsSpan : Tryz.prog.cellsOf 80 = 2 := by kernel_rfl
theorem cellsBoolF : Tryz.prog.cellsOf 4 = 1 := by kernel_rfl

def rf (i : Nat) : Rf := rulesL.getD i ⟨[], 0, 0, 0, 0, false⟩

def Rf.vs (f : Rf) : List Value := [.string (txt f.start), .int .i64 f.c0, .int .i64 f.c1, .int .i64 f.e0, .int .i64 f.e1, .bool f.refers]

/-- The table lies as the text lays it. -/
def RulesAt (w : World) : Prop := 0 < w.heap.size ∧ ∀ i, i < 4 → ∀ (j : Nat) (hj : j < (rf i).vs.length), w.cell? ⟨0, i * 6 + j, none⟩ = some (rf i).vs[j]

theorem RulesAt.below {w w' : World} {B : Nat} (h : RulesAt w) (hb : Below B w w') (hB : 0 < B) : RulesAt w' :=
  ⟨Nat.lt_of_lt_of_le h.1 hb.size, fun i hi j hj => (hb.cell (p := ⟨0, _, none⟩) hB).trans (h.2 i hi j hj)⟩

theorem RulesAt.call {w w' : World} (h : RulesAt w) (hb : Below w.heap.size w w') : RulesAt w' := h.below hb h.1

theorem FormsAt.call {w w' : World} (h : FormsAt w) (hb : Below w.heap.size w w') : FormsAt w' := h.below hb h.1

set_option maxRecDepth 100000 in
theorem span_cells {H : Type} {enc : TypeId × Value → H} {W : World} {base : Nat} {sp : Nat → Bool} {held : Bool} {fuel : Nat} {cs : List Value} {x : DataW H × List MemPlace} (h : DataW.trod enc Tryz.prog W base sp held fuel 80 cs = some x) {a b : Int} (hx : x.1 = .agg [.lit (.int .i64 a), .lit (.int .i64 b)]) :
    cs = [.int .i64 a, .int .i64 b] := by
  obtain ⟨ys, n, hn, hxe, hl, hyl, hf⟩ := DataW.trod_struct Tryz.underlying80 h
  subst hn
  rw [cellsSpan] at hl
  match cs, hl with
  | [c0, c1], _ =>
    have hs : ys.length = 2 := hyl
    match ys, hs with
    | [y0, y1], _ =>
      have f0 : DataW.trod enc Tryz.prog W base sp held n 3 (([c0, c1].drop 0).take (Tryz.prog.cellsOf 3)) = some y0 := hf 0 _ rfl
      have f1 : DataW.trod enc Tryz.prog W base sp held n 3 (([c0, c1].drop 1).take (Tryz.prog.cellsOf 3)) = some y1 := hf 1 _ rfl
      rw [cellsIntF] at f0 f1
      obtain ⟨k0, e0, d0, _⟩ := DataW.trod_int Tryz.underlying3 f0
      obtain ⟨k1, e1, d1, _⟩ := DataW.trod_int Tryz.underlying3 f1
      simp at e0 e1
      subst e0 e1 d0 d1
      rw [hxe] at hx
      simp only [List.map_cons, List.map_nil, DataW.agg.injEq, List.cons.injEq, DataW.lit.injEq, Lit.int.injEq, true_and, and_true] at hx
      obtain ⟨rfl, rfl⟩ := hx
      rfl

set_option maxRecDepth 100000 in
theorem rule_cells {H : Type} {enc : TypeId × Value → H} {W : World} {base : Nat} {sp : Nat → Bool} {held : Bool} {fuel : Nat} {cs : List Value} {x : DataW H × List MemPlace} (h : DataW.trod enc Tryz.prog W base sp held fuel 82 cs = some x) {f : Rf} (hx : x.1 = f.d) :
    cs = f.vs := by
  obtain ⟨ys, n, hn, hxe, hl, hyl, hf⟩ := DataW.trod_struct Tryz.underlying82 h
  subst hn
  rw [cellsRuleF] at hl
  match cs, hl with
  | [c0, c1, c2, c3, c4, c5], _ =>
    have hs : ys.length = 4 := hyl
    match ys, hs with
    | [y0, y1, y2, y3], _ =>
      have f0 : DataW.trod enc Tryz.prog W base sp held n 9 (([c0, c1, c2, c3, c4, c5].drop 0).take (Tryz.prog.cellsOf 9)) = some y0 := hf 0 _ rfl
      have f1 : DataW.trod enc Tryz.prog W base sp held n 80 (([c0, c1, c2, c3, c4, c5].drop 1).take (Tryz.prog.cellsOf 80)) = some y1 := hf 1 _ rfl
      have f2 : DataW.trod enc Tryz.prog W base sp held n 80 (([c0, c1, c2, c3, c4, c5].drop 3).take (Tryz.prog.cellsOf 80)) = some y2 := hf 2 _ rfl
      have f3 : DataW.trod enc Tryz.prog W base sp held n 4 (([c0, c1, c2, c3, c4, c5].drop 5).take (Tryz.prog.cellsOf 4)) = some y3 := hf 3 _ rfl
      rw [cellsStrF] at f0
      rw [cellsSpan] at f1 f2
      rw [cellsBoolF] at f3
      rw [hxe] at hx
      simp only [List.map_cons, List.map_nil, Rf.d, DataW.agg.injEq, List.cons.injEq, and_true] at hx
      obtain ⟨h0, h1, h2, h3⟩ := hx
      obtain ⟨s, e0, d0, _⟩ := DataW.trod_string Tryz.underlying9 f0
      obtain ⟨b, e3, d3⟩ := DataW.trod_bool Tryz.underlying4 f3
      have g1 := span_cells f1 h1
      have g2 := span_cells f2 h2
      simp at e0 e3 g1 g2
      obtain ⟨g1a, g1b⟩ := g1
      obtain ⟨g2a, g2b⟩ := g2
      subst e0 e3 g1a g1b g2a g2b d0 d3
      simp only [DataW.lit.injEq, Lit.string.injEq, Lit.bool.injEq] at h0 h3
      have : s = txt f.start := by rw [← h0]; obtain ⟨⟨l⟩⟩ := s; rfl
      rw [this, h3]
      rfl

set_option maxRecDepth 100000 in
theorem rules_of {W : World} {rest : List (String × DataW Unit)} (h : laidMet Tryz.prog (("loop.example/g00751/impl.ruleForms", Rows.laid_loop_example_g00751_impl_ruleForms) :: rest) W) : RulesAt W := by
  obtain ⟨ps, hL, _, _⟩ := h
  obtain ⟨g, t, cs, fuel, p, q, h1, h2, h3, h4, _, _⟩ := hL
  obtain rfl := Option.some.inj (gRules.symm.trans h1)
  obtain rfl := Option.some.inj (gRulesType.symm.trans h2)
  obtain ⟨xs, m, hm, hx, hl, hxl, hel⟩ := DataW.trod_array Tryz.underlying83 h4
  have hd : xs.map (·.1) = rulesL.map Rf.d := by
    have := congrArg Prod.fst hx
    rw [rules_laid] at this
    exact (DataW.agg.inj this).symm
  rw [cellsRules] at hl
  have hvar : ∀ o (ho : o < 24), W.cell? ⟨0, o, none⟩ = cs.toList[o]? := by
    intro o ho
    unfold World.var? at h3
    rw [gRules, Option.bind_some] at h3
    unfold World.cell?
    split at h3
    · rename_i c tt fr hb
      cases h3
      simp [hb]
    · cases h3
  have hlt : 0 < W.heap.size := by
    have h0 := hvar 0 (by omega)
    rw [List.getElem?_eq_getElem (by omega)] at h0
    exact World.block_lt_of_cell? W ⟨0, 0, none⟩ h0
  refine ⟨hlt, fun i hi j hj => ?_⟩
  have hxi : i < xs.length := by omega
  have hfi : i < rulesL.length := by have : rulesL.length = 4 := rfl
                                     omega
  have he := hel i hi
  rw [cellsRuleF, List.getElem?_eq_getElem hxi] at he
  have hfm : rf i = rulesL[i] := by unfold rf; rw [List.getD_eq_getElem?_getD, List.getElem?_eq_getElem hfi]; rfl
  have hdi : xs[i].1 = (rf i).d := by
    have : (xs.map (·.1))[i]? = (rulesL.map Rf.d)[i]? := by rw [hd]
    rw [List.getElem?_map, List.getElem?_map, List.getElem?_eq_getElem hxi, List.getElem?_eq_getElem hfi] at this
    rw [hfm]
    simpa using this
  have hc := rule_cells he hdi
  have hj6 : j < 6 := hj
  rw [hvar _ (by omega), ← List.getElem?_eq_getElem hj, ← hc, List.getElem?_take, if_pos hj6, List.getElem?_drop]

end Go.Proofs.YtpdcmmhhgnackaaGreatDoor
