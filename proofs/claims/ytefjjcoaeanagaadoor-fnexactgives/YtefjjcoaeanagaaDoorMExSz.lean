/- The laws' own helpers over expressions: the size that is left. -/
/- The laws' own helpers over expressions: the copy. -/
/- The laws' own helpers over expressions: the equality. -/
import Derived.Test.YtefjjcoaeanagaaDoorMEx
import Derived.Deep.RegionHeld3
import Derived.Deep.DrawnRows
namespace Go.Proofs.YtefjjcoaeanagaaDoor
open Go.RowKit

def leftN (n : Nat) (left : Int) : Int := if left < n then -1 else left - n

theorem leftN_le {n : Nat} (h : ¬ leftN n 1048576 < 0) : n ≤ 1048576 := by
  unfold leftN at h
  split at h
  · omega
  · omega

def SzP (d : Nat) : Prop := ∀ (e : Ex) (a : Option Addr) (c : Nat) (left : Int) (w : World), e.fit → KidsAt w d a c e.kids → 0 ≤ left → left ≤ 1048576 →
  Calls Tryd.prog 15 #[.agg #[.int .i64 e.kind, .string e.text, .int .i64 e.num, .slice a e.kids.length c], .int .i64 left] w fun x w' => x = .returned (.int .i64 (leftN e.wt left)) ∧ Below w.heap.size w w'

set_option maxHeartbeats 1000000 in
theorem szKids (d : Nat) (ih : SzP d) (a : Option Addr) (c : Nat) (xs : List Ex) (left : Int) (w : World) (hx : KidsAt w (d + 1) a c xs) (h0 : 0 ≤ left) (h1 : left ≤ 1048576) :
    Calls Tryd.prog 49 #[.slice a xs.length c, .int .i64 left] w fun e w' => e = .returned (.int .i64 (leftN (xs.length + wtL xs) left)) ∧ Below w.heap.size w w' := by
  have hl := hx.len
  by_cases hs : left < xs.length
  · have H : Hid (leftN (xs.length + wtL xs) left = -1) := by unfold Hid leftN; rw [if_pos (by omega)]
    go_enter Tryd.func49, Tryd.ntmps49
    go_wp2
    go_ret
    exact ⟨by rw [H.out]; rfl, Below.refl _ _⟩
  · have hs' : (xs.length : Int) ≤ left := by omega
    go_enter Tryd.func49, Tryd.ntmps49
    go_wp2
    go_loopw [1, 5] (fun l i wr => ∃ k : Nat, k ≤ xs.length ∧ i = .int .i64 k ∧ wtL (xs.take k) ≤ left - xs.length ∧ l = .int .i64 (left - xs.length - wtL (xs.take k)) ∧ Below w.heap.size w wr) (fun _ i _ => xs.length - (intOf i).toNat)
    case atStart => exact ⟨0, Nat.zero_le _, rfl, by simp [wtL]; omega, by simp [wtL], Below.refl _ _⟩
    case round =>
      obtain ⟨k, hk, rfl, hsm, rfl, hb⟩ := hrel
      by_cases hlt : k < xs.length
      · obtain ⟨b, off, rfl, hbl, hc0, hc1, hc2, hfit, a', c', hc3, hkid⟩ := (hx.below hb).spot hlt
        have HT := Lib.hid (wtL_take xs k hlt)
        have HL := Lib.hid (wtL_mono xs (k + 1))
        have HK := Lib.hid hkid
        clear hkid hx
        go_wp2_with fail
        refine (ih xs[k] a' c' (left - xs.length - wtL (xs.take k)) _ hfit HK.out (by omega) (by omega)).mono ?_
        by_cases hle : left - xs.length - wtL (xs.take k) < xs[k].wt
        · rw [show leftN xs[k].wt (left - xs.length - wtL (xs.take k)) = -1 from if_pos hle]
          rintro e w2 ⟨rfl, hb2⟩
          have H : Hid (leftN (xs.length + wtL xs) left = -1) := by unfold Hid leftN; rw [if_pos (by have := HT.out; have := HL.out; omega)]
          go_wp2_with fail
          go_ret
          exact ⟨by rw [H.out]; rfl, hb.trans (hb2.mono hb.size)⟩
        · rw [show leftN xs[k].wt (left - xs.length - wtL (xs.take k)) = left - xs.length - wtL (xs.take k) - xs[k].wt from if_neg hle]
          rintro e w2 ⟨rfl, hb2⟩
          go_wp2_with fail
          go_roundw
          case rel => exact ⟨k + 1, by omega, by go_num, by have := HT.out; omega, by rw [HT.out]; go_num, hb.trans (hb2.mono hb.size)⟩
          case measure => simp [intOf]; omega
      · obtain rfl : k = xs.length := by omega
        have H : Hid (leftN (xs.length + wtL xs) left = left - xs.length - wtL xs) := by
          unfold Hid leftN; rw [List.take_length] at hsm; rw [if_neg (by omega)]; omega
        go_wp2_with fail
        go_ret
        exact ⟨by rw [H.out, List.take_length]; rfl, hb⟩

set_option maxHeartbeats 1000000 in
theorem szEx : ∀ d, SzP d
  | 0 => fun _ _ _ _ _ _ h => h.elim
  | d + 1 => by
    intro e a c left w hfit hk h0 h1
    have hks := szKids d (szEx d) a c e.kids
    have ht : e.text.size ≤ 9223372036854775807 := by have := hfit.1; unfold maxLen at this; omega
    have hwt := Lib.hid (Ex.wt_eq e)
    have hn := hk.len
    have HK := Lib.hid (fun o => hk.below ((Below.refl w.heap.size w).alloc (Nat.le_refl _) o))
    clear hk
    by_cases hs : left - e.text.size < 0
    · have H : Hid (leftN e.wt left = -1) := by unfold Hid leftN; rw [if_pos (by have := hwt.out; omega)]
      go_enter Tryd.func15, Tryd.ntmps15
      go_wp2_with fail
      go_ret
      exact ⟨by rw [H.out]; rfl, (Below.refl _ _).alloc (Nat.le_refl _) _⟩
    · have hd : decide (left - (e.text.size : Int) < 0) = false := by simpa using hs
      go_enter Tryd.func15, Tryd.ntmps15
      go_wp2_with fail
      refine (hks (left - e.text.size) _ (HK.out _) (by omega) (by omega)).mono ?_
      by_cases hle : left - e.text.size < (e.kids.length + wtL e.kids : Nat)
      · rw [show leftN (e.kids.length + wtL e.kids) (left - e.text.size) = -1 from if_pos hle]
        rintro x w2 ⟨rfl, hb2⟩
        have H : Hid (leftN e.wt left = -1) := by unfold Hid leftN; rw [if_pos (by have := hwt.out; omega)]
        go_wp2_with fail
        go_ret
        exact ⟨by rw [H.out]; rfl, ((Below.refl _ _).alloc (Nat.le_refl _) _).trans (hb2.mono (by simp))⟩
      · rw [show leftN (e.kids.length + wtL e.kids) (left - e.text.size) = left - e.text.size - (e.kids.length + wtL e.kids : Nat) from if_neg hle]
        rintro x w2 ⟨rfl, hb2⟩
        have H : Hid (leftN e.wt left = left - e.text.size - (e.kids.length + wtL e.kids : Nat)) := by unfold Hid leftN; rw [if_neg (by have := hwt.out; omega)]; have := hwt.out; omega
        have hd2 : decide (left - (e.text.size : Int) - ((e.kids.length + wtL e.kids : Nat) : Int) < 0) = false := by simp; omega
        go_wp2_with fail
        go_ret
        exact ⟨by rw [H.out]; rfl, ((Below.refl _ _).alloc (Nat.le_refl _) _).trans (hb2.mono (by simp))⟩

end Go.Proofs.YtefjjcoaeanagaaDoor

namespace Go.Proofs.YtefjjcoaeanagaaDoor
open Go.RowKit

/-- What a copy of an expression answers: the same tree, in new blocks. -/
def NewEx (w : World) (d : Nat) (e : Ex) (x : Ending) (w' : World) : Prop :=
  ∃ a c, x = .returned (.agg #[.int .i64 e.kind, .string e.text, .int .i64 e.num, .slice a e.kids.length c]) ∧ KidsB w.heap.size w' d a c e.kids ∧ Below w.heap.size w w'

def NewKids (w : World) (d : Nat) (kids : List Ex) (x : Ending) (w' : World) : Prop :=
  ∃ a c, x = .returned (.slice a kids.length c) ∧ KidsB w.heap.size w' d a c kids ∧ Below w.heap.size w w'

def ToP (d : Nat) : Prop := ∀ (e : Ex) (a : Option Addr) (c : Nat) (w : World), e.fit → e.wt ≤ 1048576 → KidsAt w d a c e.kids →
  Calls Tryd.prog 18 #[.agg #[.int .i64 e.kind, .string e.text, .int .i64 e.num, .slice a e.kids.length c]] w (NewEx w d e)

theorem Tryd.infoExpr : (Tryd.prog.info? 26).map (fun i => (i.zero, i.size, i.bytes)) = some (some (.agg #[.int .i64 0, .string ByteArray.empty, .int .i64 0, .slice none 0 0]), 4, 56) := by kernel_rfl

/-- What has been copied of a row of expressions. -/
def Done (w : World) (d : Nat) (kids : List Ex) (done : List Es) (wr : World) : Prop :=
  done.length ≤ kids.length ∧ (∀ (j : Nat) (h : j < done.length) (h' : j < kids.length), done[j].e = kids[j] ∧ KidsB (w.heap.size + 1) wr d done[j].a done[j].c kids[j].kids) ∧
  wr.ownsRow w.heap.size 26 4 (.slice (some ⟨w.heap.size, 0, none⟩) kids.length kids.length) kids.length (efill done kids.length) ∧ w.heap.size < wr.heap.size ∧ Below w.heap.size w wr

theorem Done.end {w wr : World} {d : Nat} {kids : List Ex} {done : List Es} (h : Done w d kids done wr) (hn : done.length = kids.length) (hm : kids.length ≤ maxLen) (hfit : ∀ e ∈ kids, e.fit) :
    KidsB w.heap.size wr (d + 1) (some ⟨w.heap.size, 0, none⟩) kids.length kids := by
  obtain ⟨_, hd, hown, hlt, hb⟩ := h
  refine ⟨Nat.le_refl _, hm, (fun h => by cases h), fun hp => ⟨w.heap.size, 0, rfl, Nat.le_refl _, hlt, fun i hi => ?_⟩⟩
  rw [← hn, efill_all, hn] at hown
  obtain ⟨c0, c1, c2, c3⟩ := ecells_at done i (by omega)
  obtain ⟨he, hk⟩ := hd i (by omega) hi
  have e0 := (World.ownsRow.cellAt (w := wr) hown (i * 4) (by omega)).trans c0
  have e1 := (World.ownsRow.cellAt (w := wr) hown (i * 4 + 1) (by omega)).trans c1
  have e2 := (World.ownsRow.cellAt (w := wr) hown (i * 4 + 2) (by omega)).trans c2
  have e3 := (World.ownsRow.cellAt (w := wr) hown (i * 4 + 3) (by omega)).trans c3
  unfold Es.k at e0
  unfold Es.t at e1
  unfold Es.n at e2
  unfold Es.s at e3
  rw [he] at e0 e1 e2 e3
  rw [Nat.zero_add]
  exact ⟨e0, e1, e2, hfit _ (List.getElem_mem hi), _, _, e3, hk.lower (by omega)⟩

theorem Done.step {w wr w2 w3 : World} {d : Nat} {kids : List Ex} {done : List Es} (h : Done w d kids done wr) (hlt : done.length < kids.length) {a : Option Addr} {c : Nat}
    (hk : KidsB wr.heap.size w2 d a c kids[done.length].kids) (hb2 : Below wr.heap.size wr w2)
    (h3 : w3 = (((w2.setCell ⟨w.heap.size, done.length * 4, none⟩ (.int .i64 kids[done.length].kind)).setCell ⟨w.heap.size, done.length * 4 + 1, none⟩ (.string kids[done.length].text)).setCell ⟨w.heap.size, done.length * 4 + 2, none⟩ (.int .i64 kids[done.length].num)).setCell ⟨w.heap.size, done.length * 4 + 3, none⟩ (.slice a kids[done.length].kids.length c)) :
    Done w d kids (done ++ [⟨kids[done.length], a, c⟩]) w3 := by
  obtain ⟨hle, hd, hown, hlw, hbw⟩ := h
  have hown2 : w2.ownsRow w.heap.size 26 4 (.slice (some ⟨w.heap.size, 0, none⟩) kids.length kids.length) kids.length (efill done kids.length) := World.ownsRow.kept (row := none) hown ⟨hb2.os, hb2.tape, hb2.output, hb2.size, fun k hk _ => hb2.block k hk⟩ (.inr (fun e => by cases e))
  have R0 := hown2.stored (done.length * 4) (.int .i64 kids[done.length].kind)
  have R1 := R0.1.stored (done.length * 4 + 1) (.string kids[done.length].text)
  have R2 := R1.1.stored (done.length * 4 + 2) (.int .i64 kids[done.length].num)
  have R3 := R2.1.stored (done.length * 4 + 3) (.slice a kids[done.length].kids.length c)
  have hset := efill_set done kids.length ⟨kids[done.length], a, c⟩ hlt
  unfold Es.k Es.t Es.n Es.s at hset
  simp only at hset
  rw [hset] at R3
  have hbw2 : Below w.heap.size w w2 := hbw.trans (hb2.mono hbw.size)
  have RB := (((hbw2.setCell (p := ⟨w.heap.size, done.length * 4, none⟩) (Nat.le_refl _) (.int .i64 kids[done.length].kind)).setCell (p := ⟨w.heap.size, done.length * 4 + 1, none⟩) (Nat.le_refl _) (.string kids[done.length].text)).setCell (p := ⟨w.heap.size, done.length * 4 + 2, none⟩) (Nat.le_refl _) (.int .i64 kids[done.length].num)).setCell (p := ⟨w.heap.size, done.length * 4 + 3, none⟩) (Nat.le_refl _) (.slice a kids[done.length].kids.length c)
  have hlt2 : w.heap.size < w2.heap.size := Nat.lt_of_lt_of_le hlw hb2.size
  have hsz : w3.heap.size = w2.heap.size := by subst h3; simp [World.setCell]
  have hcs : ∀ b, b ≠ w.heap.size → ∀ o, w3.cell? ⟨b, o, none⟩ = w2.cell? ⟨b, o, none⟩ := by
    intro b hb o
    subst h3
    rw [World.cell?_setCell_other _ _ _ _ (by simp [hb]), World.cell?_setCell_other _ _ _ _ (by simp [hb]), World.cell?_setCell_other _ _ _ _ (by simp [hb]), World.cell?_setCell_other _ _ _ _ (by simp [hb])]
  refine ⟨by simp; omega, fun j hj hj' => ?_, by subst h3; exact R3.1, by omega, by subst h3; exact RB⟩
  by_cases hjl : j < done.length
  · rw [List.getElem_append_left hjl]
    obtain ⟨h1, h2⟩ := hd j hjl hj'
    refine ⟨h1, (h2.below hb2).agree (by omega) fun b hb _ o => hcs b (by omega) o⟩
  · have hje : j = done.length := by simp at hj; omega
    subst hje
    rw [List.getElem_append_right (Nat.le_refl _)]
    simp only [Nat.sub_self, List.getElem_cons_zero]
    refine ⟨by first | rfl | trivial, (hk.lower (by omega)).agree (by omega) fun b hb _ o => hcs b (by omega) o⟩

theorem KidsAt.fits {w : World} {d : Nat} {a : Option Addr} {c : Nat} {kids : List Ex} (h : KidsAt w d a c kids) : ∀ e ∈ kids, e.fit := by
  intro e he
  cases d with
  | zero => exact h.elim
  | succ d =>
    obtain ⟨i, hi, rfl⟩ := List.mem_iff_getElem.1 he
    obtain ⟨_, _, _, _, _, _, _, hf, _⟩ := h.spot hi
    exact hf

theorem wtL_get {l : List Ex} {k : Nat} (h : k < l.length) : l[k].wt ≤ wtL l := by
  have h1 := wtL_take l k h
  have h2 := wtL_mono l (k + 1)
  omega

set_option maxHeartbeats 1000000 in
theorem toKids (d : Nat) (ih : ToP d) (a : Option Addr) (c : Nat) (xs : List Ex) (w : World) (hx : KidsAt w (d + 1) a c xs) (hn : xs.length + wtL xs ≤ 1048576) :
    Calls Tryd.prog 51 #[.slice a xs.length c] w (NewKids w (d + 1) xs) := by
  obtain ⟨i0, hi0, hz0, hz1, hz2⟩ := info_parts Tryd.infoExpr
  have hb16 : i0.bytes * xs.length ≤ 281474976710656 := by rw [hz2]; omega
  have hfits := Lib.hid hx.fits
  have hl := hx.len
  go_enter Tryd.func51, Tryd.ntmps51
  go_wp2_with (at_make; refine wpList_make_full _ rfl _ _ 24 rfl w.heap.size 26 i0 (.agg #[.int .i64 0, .string ByteArray.empty, .int .i64 0, .slice none 0 0]) 4 Tryd.underlying24 hi0 hz0 hz1 .i64 .i64 _ _ xs.length rfl rfl rfl rfl hb16 (by unfold maxLen; omega) (Nat.le_refl _) ?_; intro w1 hown hg)
  have hown1 : Done w d xs [] w1 := by
    refine ⟨Nat.zero_le _, fun j h => by simp at h, ?_, ?_, (Below.refl _ _).grown hg (Nat.le_refl _) (fun k hk => by cases hk)⟩
    · unfold efill
      rw [List.nil_append, List.length_nil, Nat.sub_zero, ecells_none]
      exact hown
    · rcases hown.2 with ⟨h, _⟩ | ⟨g, cap, cur, hv, _, hgg, _⟩
      · cases h
      · simp only [Value.slice.injEq, Option.some.injEq, Addr.mk.injEq] at hv
        rcases Nat.lt_or_ge w.heap.size w1.heap.size with h | h
        · exact h
        · rw [← hv.1.1, Array.getElem?_eq_none h] at hgg; cases hgg
  clear hown hg
  go_loopw [4] (fun i wr => ∃ done : List Es, i = .int .i64 done.length ∧ Done w d xs done wr) (fun i _ => xs.length - (intOf i).toNat)
  case atStart => exact ⟨[], rfl, hown1⟩
  case round =>
    obtain ⟨done, rfl, hd⟩ := hrel
    by_cases hlt : done.length < xs.length
    · obtain ⟨b, off, rfl, hbl, hc0, hc1, hc2, hfit, a', c', hc3, hkid⟩ := (hx.below hd.2.2.2.2).spot hlt
      have HK := Lib.hid hkid
      have HD := Lib.hid hd
      clear hkid hx hd
      go_wp2_with fail
      refine (ih xs[done.length] a' c' _ hfit (Nat.le_trans (wtL_get hlt) (by omega)) HK.out).mono ?_
      rintro e w2 ⟨a2, c2, rfl, hk2, hb2⟩
      have hown2 : w2.ownsRow w.heap.size 26 4 (.slice (some ⟨w.heap.size, 0, none⟩) xs.length xs.length) xs.length (efill done xs.length) := World.ownsRow.kept (row := none) HD.out.2.2.1 ⟨hb2.os, hb2.tape, hb2.output, hb2.size, fun k hk _ => hb2.block k hk⟩ (.inr (fun e => by cases e))
      obtain ⟨hs0, hs1, hs2, hs3⟩ := efill_at done xs.length hlt
      have hd0 : w2.cell? ⟨w.heap.size, done.length * 4, none⟩ = some (.int .i64 0) := (hown2.cellAt _ (by omega)).trans hs0
      have hd1 : w2.cell? ⟨w.heap.size, done.length * 4 + 1, none⟩ = some (.string ByteArray.empty) := (hown2.cellAt _ (by omega)).trans hs1
      have hd2 : w2.cell? ⟨w.heap.size, done.length * 4 + 2, none⟩ = some (.int .i64 0) := (hown2.cellAt _ (by omega)).trans hs2
      have hd3 : w2.cell? ⟨w.heap.size, done.length * 4 + 3, none⟩ = some (.slice none 0 0) := (hown2.cellAt _ (by omega)).trans hs3
      have hf0 : w2.frozen? ⟨w.heap.size, done.length * 4, none⟩ = false := hown2.frozenAt _
      have hf1 : w2.frozen? ⟨w.heap.size, done.length * 4 + 1, none⟩ = false := hown2.frozenAt _
      have hf2 : w2.frozen? ⟨w.heap.size, done.length * 4 + 2, none⟩ = false := hown2.frozenAt _
      have hf3 : w2.frozen? ⟨w.heap.size, done.length * 4 + 3, none⟩ = false := hown2.frozenAt _
      have HS := Lib.hid (HD.out.step hlt hk2 hb2 rfl)
      clear hown2 hs0 hs1 hs2 hs3 hc0 hc1 hc2 hc3 hbl hk2 hb2 HD HK
      go_wp2_with fail
      go_roundw
      case rel => exact ⟨done ++ [⟨xs[done.length], a2, c2⟩], by simp, HS.out⟩
      case measure => simp [intOf]; omega
    · have hle := hd.1
      have hee : done.length = xs.length := by omega
      have HE := Lib.hid (hd.end hee (by unfold maxLen; omega) hfits.out)
      have hbl := hd.2.2.2.2
      clear hd
      go_wp2_with fail
      go_ret
      exact ⟨_, _, rfl, HE.out, hbl⟩

set_option maxHeartbeats 1000000 in
theorem toEx : ∀ d, ToP d
  | 0 => fun _ _ _ _ _ _ h => h.elim
  | d + 1 => by
    intro e a c w hfit hwt hk
    have hks := toKids d (toEx d) a c e.kids
    have hw := Ex.wt_eq e
    have HK := Lib.hid (fun w' (hb : Below w.heap.size w w') => hk.below hb)
    clear hk
    go_enter Tryd.func18, Tryd.ntmps18
    go_wp2_with fail
    refine (hks _ (HK.out _ ?_) (by omega)).mono ?_
    · exact (((Below.refl _ _).alloc (Nat.le_refl _) _).alloc (by simp) _).alloc (by simp; omega) _
    rintro x w2 ⟨a2, c2, rfl, hk2, hb2⟩
    have hB : Below w.heap.size w w2 := ((((Below.refl _ _).alloc (Nat.le_refl _) _).alloc (by simp) _).alloc (by simp; omega) _).trans (hb2.mono (by simp; omega))
    obtain ⟨hcw, hfw⟩ := bcellE hb2
    have g0 : w2.cell? ⟨w.heap.size + 1 + 1, 0, none⟩ = some (.int .i64 e.kind) := (hcw _ _ (by simp)).trans (by simp [go_sem])
    have g1 : w2.cell? ⟨w.heap.size + 1 + 1, 1, none⟩ = some (.string e.text) := (hcw _ _ (by simp)).trans (by simp [go_sem])
    have g2 : w2.cell? ⟨w.heap.size + 1 + 1, 2, none⟩ = some (.int .i64 e.num) := (hcw _ _ (by simp)).trans (by simp [go_sem])
    have g3 : w2.cell? ⟨w.heap.size + 1 + 1, 3, none⟩ = some (.slice none 0 0) := (hcw _ _ (by simp)).trans (by simp [go_sem])
    have z3 : w2.frozen? ⟨w.heap.size + 1 + 1, 3, none⟩ = false := (hfw _ _ (by simp)).trans (by simp [go_sem])
    have y0 : w2.cell? ⟨w.heap.size + 1, 0, none⟩ = some (.int .i64 0) := (hcw _ _ (by simp)).trans (by simp [go_sem])
    have y1 : w2.cell? ⟨w.heap.size + 1, 1, none⟩ = some (.string ByteArray.empty) := (hcw _ _ (by simp)).trans (by simp [go_sem]; rfl)
    have y2 : w2.cell? ⟨w.heap.size + 1, 2, none⟩ = some (.int .i64 0) := (hcw _ _ (by simp)).trans (by simp [go_sem])
    have y3 : w2.cell? ⟨w.heap.size + 1, 3, none⟩ = some (.slice none 0 0) := (hcw _ _ (by simp)).trans (by simp [go_sem])
    have x0 : w2.frozen? ⟨w.heap.size + 1, 0, none⟩ = false := (hfw _ _ (by simp)).trans (by simp [go_sem])
    have x1 : w2.frozen? ⟨w.heap.size + 1, 1, none⟩ = false := (hfw _ _ (by simp)).trans (by simp [go_sem])
    have x2 : w2.frozen? ⟨w.heap.size + 1, 2, none⟩ = false := (hfw _ _ (by simp)).trans (by simp [go_sem])
    have x3 : w2.frozen? ⟨w.heap.size + 1, 3, none⟩ = false := (hfw _ _ (by simp)).trans (by simp [go_sem])
    have HE : Hid (∀ w5 : World, w2.heap.size ≤ w5.heap.size → (∀ b, w.heap.size + 3 ≤ b → ∀ o, w5.cell? ⟨b, o, none⟩ = w2.cell? ⟨b, o, none⟩) → KidsB w.heap.size w5 (d + 1) a2 c2 e.kids) := by
      intro w5 h1 h2
      refine KidsB.lower (lo := w.heap.size + 1 + 1 + 1) (by omega) (KidsB.agree (w := w2) h1 (fun b hb _ o => h2 b hb o) (by simpa using hk2))
    have HB := Lib.hid hB
    clear hk2 hb2 hB hcw hfw
    go_wp2_with fail
    refine bodyPost_ret (v := .agg #[.int .i64 e.kind, .string e.text, .int .i64 e.num, .slice a2 e.kids.length c2]) (by simp [results, Tryd.results18, go_sem, *]) rfl ⟨_, _, rfl, HE.out _ (by simp [World.setCell]) ?_, ?_⟩
    · intro b hb o
      have ho : ∀ (wv : World) (q : Addr) (v : Value), q.block < w.heap.size + 3 → (wv.setCell q v).cell? ⟨b, o, none⟩ = wv.cell? ⟨b, o, none⟩ := fun wv q v hq => World.cell?_setCell_other _ _ _ _ (by intro h; subst h; simp at hq; omega)
      exact (ho _ _ _ (by simp)).trans ((ho _ _ _ (by simp)).trans ((ho _ _ _ (by simp)).trans ((ho _ _ _ (by simp)).trans (ho _ _ _ (by simp)))))
    · exact ((((HB.out.setCell (by simp; omega) _).setCell (by simp) _).setCell (by simp) _).setCell (by simp) _).setCell (by simp) _

end Go.Proofs.YtefjjcoaeanagaaDoor

namespace Go.Proofs.YtefjjcoaeanagaaDoor
open Go.RowKit

theorem below_drewE {B : Nat} {a w : World} (h : Below B a w) : Below B a w.drew := ⟨h.os, h.tape, h.output, h.size, h.block⟩

def EqP (d : Nat) : Prop := ∀ (e : Ex) (a a' : Option Addr) (c c' : Nat) (w : World), KidsAt w d a c e.kids → KidsAt w d a' c' e.kids →
  Calls Tryd.prog 21 #[.agg #[.int .i64 e.kind, .string e.text, .int .i64 e.num, .slice a e.kids.length c], .agg #[.int .i64 e.kind, .string e.text, .int .i64 e.num, .slice a' e.kids.length c']] w fun x w' => x = .returned (.bool true) ∧ Below w.heap.size w w'

set_option maxHeartbeats 1000000 in
theorem eqKids (d : Nat) (ih : EqP d) (a a' : Option Addr) (c c' : Nat) (xs : List Ex) (w : World) (hx : KidsAt w (d + 1) a c xs) (hy : KidsAt w (d + 1) a' c' xs) :
    Calls Tryd.prog 53 #[.slice a xs.length c, .slice a' xs.length c'] w fun e w' => e = .returned (.bool true) ∧ Below w.heap.size w w' := by
  have hl := hx.len
  have hne : (((xs.length : Int)) != (xs.length : Int)) = false := by simp
  go_enter Tryd.func53, Tryd.ntmps53
  go_wp2
  go_loopw [5] (fun i wr => ∃ k : Nat, k ≤ xs.length ∧ i = .int .i64 k ∧ Below w.heap.size w wr) (fun i _ => xs.length - (intOf i).toNat)
  case atStart => exact ⟨0, Nat.zero_le _, rfl, Below.refl _ _⟩
  case round =>
    obtain ⟨k, hk, rfl, hbw⟩ := hrel
    by_cases hlt : k < xs.length
    · obtain ⟨b, off, rfl, hbl, hc0, hc1, hc2, _, p, q, hc3, hkid⟩ := (hx.below hbw).spot hlt
      obtain ⟨b', off', rfl, hbl', hd0, hd1, hd2, _, p', q', hd3, hkid'⟩ := (hy.below hbw).spot hlt
      have h0k : (0 : Int) ≤ (k : Int) := by omega
      have hkl : (k : Int) < (xs.length : Int) := by omega
      have HX := Lib.hid (fun w' hb => hkid.below (w' := w') hb)
      have HY := Lib.hid (fun w' hb => hkid'.below (w' := w') hb)
      clear hkid hkid' hx hy
      go_wp2_with fail
      go_region_held3 (fun w' => w'.cell? ⟨b, off + k * 4, none⟩ = some (.int .i64 xs[k].kind) ∧ w'.cell? ⟨b, off + k * 4 + 1, none⟩ = some (.string xs[k].text) ∧ w'.cell? ⟨b, off + k * 4 + 2, none⟩ = some (.int .i64 xs[k].num) ∧ w'.cell? ⟨b, off + k * 4 + 3, none⟩ = some (.slice p xs[k].kids.length q) ∧ w'.cell? ⟨b', off' + k * 4, none⟩ = some (.int .i64 xs[k].kind) ∧ w'.cell? ⟨b', off' + k * 4 + 1, none⟩ = some (.string xs[k].text) ∧ w'.cell? ⟨b', off' + k * 4 + 2, none⟩ = some (.int .i64 xs[k].num) ∧ w'.cell? ⟨b', off' + k * 4 + 3, none⟩ = some (.slice p' xs[k].kids.length q')) (first | go_keep | exact ⟨(hcw _ _ hbl).trans hc0, (hcw _ _ hbl).trans hc1, (hcw _ _ hbl).trans hc2, (hcw _ _ hbl).trans hc3, (hcw _ _ hbl').trans hd0, (hcw _ _ hbl').trans hd1, (hcw _ _ hbl').trans hd2, (hcw _ _ hbl').trans hd3⟩)
        ((go_at_call 21; refine (ih xs[k] p p' q q' _ (HX.out _ (below_drewE (Below.refl _ _))) (HY.out _ (below_drewE (Below.refl _ _)))).mono ?_; rintro e w2 ⟨rfl, hb2⟩; obtain ⟨hcw, _⟩ := bcellE hb2))
      go_wp2_with fail
      go_roundw
      case rel => exact ⟨k + 1, by omega, by go_num, (below_drewE hbw).trans (hb2.mono hbw.size)⟩
      case measure => simp [intOf]; omega
    · go_wp2
      go_ret
      exact ⟨rfl, hbw⟩

set_option maxHeartbeats 1000000 in
theorem eqEx : ∀ d, EqP d
  | 0 => fun _ _ _ _ _ _ h => h.elim
  | d + 1 => by
    intro e a a' c c' w hx hy
    have hks := eqKids d (eqEx d) a a' c c' e.kids
    have HX := Lib.hid (fun w' hb => hx.below (w' := w') hb)
    have HY := Lib.hid (fun w' hb => hy.below (w' := w') hb)
    have hk : (e.kind != e.kind) = false := by simp
    have hp : (e.num != e.num) = false := by simp
    have hs : (!(e.text.toList == e.text.toList)) = false := by simp
    have hl := hx.len
    clear hx hy
    go_enter Tryd.func21, Tryd.ntmps21
    go_wp2_with fail
    refine (hks _ (HX.out _ (((Below.refl _ _).alloc (Nat.le_refl _) _).alloc (by simp) _)) (HY.out _ (((Below.refl _ _).alloc (Nat.le_refl _) _).alloc (by simp) _))).mono ?_
    rintro x w2 ⟨rfl, hb2⟩
    go_wp2_with fail
    go_ret
    exact ⟨rfl, (((Below.refl _ _).alloc (Nat.le_refl _) _).alloc (by simp) _).trans (hb2.mono (by simp; omega))⟩

end Go.Proofs.YtefjjcoaeanagaaDoor
