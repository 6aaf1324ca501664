/- Trees of expressions that own their blocks: what the laws' copies are, and what a marking turns. -/
import Derived.Test.YtdggcgipchijjaaExTo
namespace Go.Proofs.Ytdggcgipchijjaa
open Go.RowKit

/-- As KidsAt, and every list of kids is a row of its own, in the blocks bs. -/
def KidsO (w : World) : Nat → Option Addr → Nat → List Ex → List Nat → Prop
  | 0, _, _, _, _ => False
  | d + 1, a, c, kids, bs => c ≤ maxLen ∧ kids.length ≤ c ∧ (a = none → c = 0) ∧
    ((kids = [] ∧ bs = []) ∨ ∃ (b : Nat) (es : List Es) (bss : List (List Nat)), a = some ⟨b, 0, none⟩ ∧ kids = es.map Es.e ∧ bss.length = es.length ∧ 0 < es.length ∧ bs = b :: bss.flatten ∧
      w.ownsRow b 26 4 (.slice (some ⟨b, 0, none⟩) es.length c) es.length (ecells es) ∧
      ∀ (i : Nat) (h : i < es.length) (h' : i < bss.length), es[i].e.fit ∧ KidsO w d es[i].a es[i].c es[i].e.kids bss[i])

theorem ownsRow_block {w w' : World} {base : Nat} {e : TypeId} {size : Nat} {v : Value} {n : Nat} {xs : List Value} (h : w.ownsRow base e size v n xs) (hb : ∀ g, v.ownBlock = some g → w'.heap[g]? = w.heap[g]?) : w'.ownsRow base e size v n xs := by
  refine ⟨h.1, ?_⟩
  rcases h.2 with h2 | ⟨g, cap, cur, hv, hB, hg, r⟩
  · exact .inl h2
  · exact .inr ⟨g, cap, cur, hv, hB, by rw [hb g (by rw [hv]; rfl)]; exact hg, r⟩

theorem ownsRow_lt {w : World} {base : Nat} {e : TypeId} {size : Nat} {g n c : Nat} {xs : List Value} (h : w.ownsRow base e size (.slice (some ⟨g, 0, none⟩) n c) n xs) : g < w.heap.size := (h.lt g rfl).2

theorem KidsO.agree {w w' : World} : ∀ {d : Nat} {a : Option Addr} {c : Nat} {kids : List Ex} {bs : List Nat}, (∀ b ∈ bs, w'.heap[b]? = w.heap[b]?) → KidsO w d a c kids bs → KidsO w' d a c kids bs
  | 0, _, _, _, _, _, h => h
  | d + 1, a, c, kids, bs, hc, h => by
    obtain ⟨h1, h2, h3, h4⟩ := h
    refine ⟨h1, h2, h3, ?_⟩
    rcases h4 with h4 | ⟨b, es, bss, ha, hk, hl, hp, rfl, hown, hkid⟩
    · exact .inl h4
    · refine .inr ⟨b, es, bss, ha, hk, hl, hp, rfl, ownsRow_block hown fun g hg => by cases hg; exact hc b (List.mem_cons_self ..), fun i hi hi' => ?_⟩
      obtain ⟨hf, hk⟩ := hkid i hi hi'
      exact ⟨hf, KidsO.agree (fun g hg => hc g (List.mem_cons_of_mem _ (List.mem_flatten.2 ⟨_, List.getElem_mem hi', hg⟩))) hk⟩

theorem KidsO.at {w : World} : ∀ {d : Nat} {a : Option Addr} {c : Nat} {kids : List Ex} {bs : List Nat}, KidsO w d a c kids bs → KidsAt w d a c kids
  | 0, _, _, _, _, h => h
  | d + 1, a, c, kids, bs, h => by
    obtain ⟨h1, h2, h3, h4⟩ := h
    refine ⟨h2, h1, h3, fun hp => ?_⟩
    rcases h4 with ⟨rfl, _⟩ | ⟨b, es, bss, ha, rfl, hl, hp, rfl, hown, hkid⟩
    · simp at hp
    · refine ⟨b, 0, ha, ownsRow_lt hown, fun i hi => ?_⟩
      have hi' : i < es.length := by simpa using hi
      obtain ⟨hf, hk⟩ := hkid i hi' (by omega)
      obtain ⟨c0, c1, c2, c3⟩ := ecells_at es i hi'
      have e0 := (World.ownsRow.cellAt (w := w) hown (i * 4) (by omega)).trans c0
      have e1 := (World.ownsRow.cellAt (w := w) hown (i * 4 + 1) (by omega)).trans c1
      have e2 := (World.ownsRow.cellAt (w := w) hown (i * 4 + 2) (by omega)).trans c2
      have e3 := (World.ownsRow.cellAt (w := w) hown (i * 4 + 3) (by omega)).trans c3
      rw [Nat.zero_add]
      simp only [List.getElem_map]
      exact ⟨e0, e1, e2, hf, _, _, e3, hk.at⟩

theorem KidsO.lt {w : World} : ∀ {d : Nat} {a : Option Addr} {c : Nat} {kids : List Ex} {bs : List Nat}, KidsO w d a c kids bs → ∀ b ∈ bs, b < w.heap.size
  | 0, _, _, _, _, h => h.elim
  | d + 1, a, c, kids, bs, h => by
    obtain ⟨_, _, _, h4⟩ := h
    intro b hb
    rcases h4 with ⟨_, rfl⟩ | ⟨b0, es, bss, ha, rfl, hl, hp, rfl, hown, hkid⟩
    · simp at hb
    · rcases List.mem_cons.1 hb with rfl | hb
      · exact ownsRow_lt hown
      · obtain ⟨l, hl', hbl⟩ := List.mem_flatten.1 hb
        obtain ⟨i, hi, rfl⟩ := List.mem_iff_getElem.1 hl'
        exact (hkid i (by omega) hi).2.lt b hbl

theorem KidsO.below {w w' : World} {d : Nat} {a : Option Addr} {c : Nat} {kids : List Ex} {bs : List Nat} (h : KidsO w d a c kids bs) (hb : Below w.heap.size w w') : KidsO w' d a c kids bs :=
  h.agree fun b hm => hb.block b (h.lt b hm)

theorem KidsO.nil (w : World) (d : Nat) : KidsO w (d + 1) none 0 [] [] := ⟨by unfold maxLen; omega, Nat.le_refl _, fun _ => rfl, .inl ⟨rfl, rfl⟩⟩

/-- What a copy of an expression answers: the same tree, in blocks of its own. -/
def NewO (w : World) (d : Nat) (e : Ex) (x : Ending) (w' : World) : Prop :=
  ∃ a c bs, x = .returned (.agg #[.int .i64 e.kind, .string e.text, .int .i64 e.num, .slice a e.kids.length c]) ∧ KidsO w' d a c e.kids bs ∧ bs.Nodup ∧ (∀ b ∈ bs, w.heap.size ≤ b) ∧ Below w.heap.size w w'

def NewKidsO (w : World) (d : Nat) (kids : List Ex) (x : Ending) (w' : World) : Prop :=
  ∃ a c bs, x = .returned (.slice a kids.length c) ∧ KidsO w' d a c kids bs ∧ bs.Nodup ∧ (∀ b ∈ bs, w.heap.size ≤ b) ∧ Below w.heap.size w w'

def ToO (d : Nat) : Prop := ∀ (e : Ex) (a : Option Addr) (c : Nat) (w : World), e.fit → e.wt ≤ 1048576 → KidsAt w d a c e.kids →
  Calls Try.prog 21 #[.agg #[.int .i64 e.kind, .string e.text, .int .i64 e.num, .slice a e.kids.length c]] w (NewO w d e)

/-- What has been copied of a row of expressions. -/
structure DoneO (w : World) (d : Nat) (kids : List Ex) (done : List Es) (bss : List (List Nat)) (wr : World) : Prop where
  le : done.length ≤ kids.length
  len : bss.length = done.length
  kid : ∀ (j : Nat) (h : j < done.length) (h' : j < kids.length) (h2 : j < bss.length), done[j].e = kids[j] ∧ KidsO wr d done[j].a done[j].c kids[j].kids bss[j]
  nodup : bss.flatten.Nodup
  range : ∀ b ∈ bss.flatten, w.heap.size + 1 ≤ b ∧ b < wr.heap.size
  own : wr.ownsRow w.heap.size 26 4 (.slice (some ⟨w.heap.size, 0, none⟩) kids.length kids.length) kids.length (efill done kids.length)
  lt : w.heap.size < wr.heap.size
  bel : Below w.heap.size w wr

theorem DoneO.end {w wr : World} {d : Nat} {kids : List Ex} {done : List Es} {bss : List (List Nat)} (h : DoneO w d kids done bss wr) (hn : done.length = kids.length) (hm : kids.length ≤ maxLen) (hfit : ∀ e ∈ kids, e.fit) :
    ∃ bs, KidsO wr (d + 1) (some ⟨w.heap.size, 0, none⟩) kids.length kids bs ∧ bs.Nodup ∧ ∀ b ∈ bs, w.heap.size ≤ b := by
  have hk : kids = done.map Es.e := by
    refine List.ext_getElem (by simp [hn]) fun i h1 h2 => ?_
    have h3 : i < done.length := by simpa using h2
    rw [List.getElem_map, (h.kid i h3 h1 (by rw [h.len]; exact h3)).1]
  by_cases h0 : kids.length = 0
  · have : kids = [] := List.eq_nil_of_length_eq_zero h0
    subst this
    exact ⟨[], ⟨by simp [maxLen], Nat.le_refl _, (fun h => by cases h), .inl ⟨rfl, rfl⟩⟩, by simp, by simp⟩
  · refine ⟨w.heap.size :: bss.flatten, ⟨hm, Nat.le_refl _, (fun h => by cases h), .inr ⟨w.heap.size, done, bss, rfl, hk, h.len, by omega, rfl, ?_, fun i hi hi' => ?_⟩⟩, ?_, ?_⟩
    · have := h.own
      rw [← hn, efill_all] at this
      rw [hn] at this ⊢
      exact this
    · obtain ⟨he, hko⟩ := h.kid i hi (by omega) hi'
      rw [he]
      exact ⟨hfit _ (List.getElem_mem _), hko⟩
    · exact List.nodup_cons.2 ⟨fun hm => by have := (h.range _ hm).1; omega, h.nodup⟩
    · intro b hb
      rcases List.mem_cons.1 hb with rfl | hb
      · exact Nat.le_refl _
      · have := (h.range b hb).1; omega

theorem DoneO.step {w wr w2 w3 : World} {d : Nat} {kids : List Ex} {done : List Es} {bss : List (List Nat)} (h : DoneO w d kids done bss wr) (hlt : done.length < kids.length) {a : Option Addr} {c : Nat} {nb : List Nat}
    (hk : KidsO w2 d a c kids[done.length].kids nb) (hnd : nb.Nodup) (hnb : ∀ b ∈ nb, wr.heap.size ≤ b) (hb2 : Below wr.heap.size wr w2)
    (h3 : w3 = (((w2.setCell ⟨w.heap.size, done.length * 4, none⟩ (.int .i64 kids[done.length].kind)).setCell ⟨w.heap.size, done.length * 4 + 1, none⟩ (.string kids[done.length].text)).setCell ⟨w.heap.size, done.length * 4 + 2, none⟩ (.int .i64 kids[done.length].num)).setCell ⟨w.heap.size, done.length * 4 + 3, none⟩ (.slice a kids[done.length].kids.length c)) :
    DoneO w d kids (done ++ [⟨kids[done.length], a, c⟩]) (bss ++ [nb]) w3 := by
  have hlw := h.lt
  have hown2 : w2.ownsRow w.heap.size 26 4 (.slice (some ⟨w.heap.size, 0, none⟩) kids.length kids.length) kids.length (efill done kids.length) := ownsRow_block h.own fun g hg => by cases hg; exact hb2.block _ hlw
  have R0 := hown2.stored (done.length * 4) (.int .i64 kids[done.length].kind)
  have R1 := R0.1.stored (done.length * 4 + 1) (.string kids[done.length].text)
  have R2 := R1.1.stored (done.length * 4 + 2) (.int .i64 kids[done.length].num)
  have R3 := R2.1.stored (done.length * 4 + 3) (.slice a kids[done.length].kids.length c)
  have hset := efill_set done kids.length ⟨kids[done.length], a, c⟩ hlt
  unfold Es.k Es.t Es.n Es.s at hset
  simp only at hset
  rw [hset] at R3
  have hbw2 : Below w.heap.size w w2 := h.bel.trans (hb2.mono h.bel.size)
  have RB := (((hbw2.setCell (p := ⟨w.heap.size, done.length * 4, none⟩) (Nat.le_refl _) (.int .i64 kids[done.length].kind)).setCell (p := ⟨w.heap.size, done.length * 4 + 1, none⟩) (Nat.le_refl _) (.string kids[done.length].text)).setCell (p := ⟨w.heap.size, done.length * 4 + 2, none⟩) (Nat.le_refl _) (.int .i64 kids[done.length].num)).setCell (p := ⟨w.heap.size, done.length * 4 + 3, none⟩) (Nat.le_refl _) (.slice a kids[done.length].kids.length c)
  have hsz : w3.heap.size = w2.heap.size := by subst h3; simp [World.setCell]
  have hbl : ∀ b, b ≠ w.heap.size → w3.heap[b]? = w2.heap[b]? := by
    intro b hb
    subst h3
    rw [Below.heap_setCell _ _ _ _ hb, Below.heap_setCell _ _ _ _ hb, Below.heap_setCell _ _ _ _ hb, Below.heap_setCell _ _ _ _ hb]
  have hs2 := hb2.size
  have hll := h.len
  have hfl : (bss ++ [nb]).flatten = bss.flatten ++ nb := by simp
  refine ⟨by simp; omega, by simp [hll], fun j hj hj' hj2 => ?_, ?_, ?_, by subst h3; exact R3.1, by omega, by subst h3; exact RB⟩
  · by_cases hjl : j < done.length
    · have hjb : j < bss.length := by omega
      rw [List.getElem_append_left hjl, List.getElem_append_left hjb]
      obtain ⟨h1, h2⟩ := h.kid j hjl hj' hjb
      refine ⟨h1, h2.agree fun b hb => ?_⟩
      have hr := h.range b (List.mem_flatten.2 ⟨_, List.getElem_mem hjb, hb⟩)
      rw [hbl b (by omega), hb2.block b hr.2]
    · have hje : j = done.length := by simp at hj; omega
      subst hje
      rw [List.getElem_append_right (Nat.le_refl _), List.getElem_append_right (by omega)]
      simp only [Nat.sub_self, hll, List.getElem_cons_zero]
      refine ⟨by first | rfl | trivial, hk.agree fun b hb => hbl b (by have := hnb b hb; omega)⟩
  · rw [hfl, List.nodup_append]
    refine ⟨h.nodup, hnd, fun x hx y hy e => ?_⟩
    have := (h.range x hx).2
    have := hnb y hy
    omega
  · intro b hb
    rw [hfl] at hb
    rcases List.mem_append.1 hb with hb | hb
    · have := h.range b hb; omega
    · have := hnb b hb
      have := hk.lt b hb
      omega

set_option maxHeartbeats 1000000 in
theorem toKidsO (d : Nat) (ih : ToO d) (a : Option Addr) (c : Nat) (xs : List Ex) (w : World) (hx : KidsAt w (d + 1) a c xs) (hn : xs.length + wtL xs ≤ 1048576) :
    Calls Try.prog 41 #[.slice a xs.length c] w (NewKidsO w (d + 1) xs) := by
  obtain ⟨i0, hi0, hz0, hz1, hz2⟩ := info_parts Try.infoExpr
  have hb16 : i0.bytes * xs.length ≤ 281474976710656 := by rw [hz2]; omega
  have hfits := Lib.hid hx.fits
  have hl := hx.len
  go_enter Try.func41, Try.ntmps41
  go_wp2_with (at_make; refine wpList_make_full _ rfl _ _ 24 rfl w.heap.size 26 i0 (.agg #[.int .i64 0, .string ByteArray.empty, .int .i64 0, .slice none 0 0]) 4 Try.underlying24 hi0 hz0 hz1 .i64 .i64 _ _ xs.length rfl rfl rfl rfl hb16 (by unfold maxLen; omega) (Nat.le_refl _) ?_; intro w1 hown hg)
  have hown1 : DoneO w d xs [] [] w1 := by
    refine ⟨Nat.zero_le _, rfl, fun j h => by simp at h, by simp, by simp, ?_, ?_, (Below.refl _ _).grown hg (Nat.le_refl _) (fun k hk => by cases hk)⟩
    · unfold efill
      rw [List.nil_append, List.length_nil, Nat.sub_zero, ecells_none]
      exact hown
    · rcases hown.2 with ⟨h, _⟩ | ⟨g, cap, cur, hv, _, hgg, _⟩
      · cases h
      · simp only [Value.slice.injEq, Option.some.injEq, Addr.mk.injEq] at hv
        rcases Nat.lt_or_ge w.heap.size w1.heap.size with h | h
        · exact h
        · rw [← hv.1.1, Array.getElem?_eq_none h] at hgg; cases hgg
  clear hown hg
  go_loopw [4] (fun i wr => ∃ (done : List Es) (bss : List (List Nat)), i = .int .i64 done.length ∧ DoneO w d xs done bss wr) (fun i _ => xs.length - (intOf i).toNat)
  case atStart => exact ⟨[], [], rfl, hown1⟩
  case round =>
    obtain ⟨done, bss, rfl, hd⟩ := hrel
    by_cases hlt : done.length < xs.length
    · obtain ⟨b, off, rfl, hbl, hc0, hc1, hc2, hfit, a', c', hc3, hkid⟩ := (hx.below hd.bel).spot hlt
      have HK := Lib.hid hkid
      have HD := Lib.hid hd
      clear hkid hx hd
      go_wp2_with fail
      refine (ih xs[done.length] a' c' _ hfit (Nat.le_trans (wtL_get hlt) (by omega)) HK.out).mono ?_
      rintro e w2 ⟨a2, c2, nb, rfl, hk2, hnd2, hnb2, hb2⟩
      have hown2 : w2.ownsRow w.heap.size 26 4 (.slice (some ⟨w.heap.size, 0, none⟩) xs.length xs.length) xs.length (efill done xs.length) := ownsRow_block HD.out.own fun g hg => by cases hg; exact hb2.block _ HD.out.lt
      obtain ⟨hs0, hs1, hs2, hs3⟩ := efill_at done xs.length hlt
      have hd0 : w2.cell? ⟨w.heap.size, done.length * 4, none⟩ = some (.int .i64 0) := (hown2.cellAt _ (by omega)).trans hs0
      have hd1 : w2.cell? ⟨w.heap.size, done.length * 4 + 1, none⟩ = some (.string ByteArray.empty) := (hown2.cellAt _ (by omega)).trans hs1
      have hd2 : w2.cell? ⟨w.heap.size, done.length * 4 + 2, none⟩ = some (.int .i64 0) := (hown2.cellAt _ (by omega)).trans hs2
      have hd3 : w2.cell? ⟨w.heap.size, done.length * 4 + 3, none⟩ = some (.slice none 0 0) := (hown2.cellAt _ (by omega)).trans hs3
      have hf0 : w2.frozen? ⟨w.heap.size, done.length * 4, none⟩ = false := hown2.frozenAt _
      have hf1 : w2.frozen? ⟨w.heap.size, done.length * 4 + 1, none⟩ = false := hown2.frozenAt _
      have hf2 : w2.frozen? ⟨w.heap.size, done.length * 4 + 2, none⟩ = false := hown2.frozenAt _
      have hf3 : w2.frozen? ⟨w.heap.size, done.length * 4 + 3, none⟩ = false := hown2.frozenAt _
      have HS := Lib.hid (HD.out.step hlt hk2 hnd2 hnb2 hb2 rfl)
      clear hown2 hs0 hs1 hs2 hs3 hc0 hc1 hc2 hc3 hbl hk2 hnd2 hnb2 hb2 HD HK
      go_wp2_with fail
      go_roundw
      case rel => exact ⟨done ++ [⟨xs[done.length], a2, c2⟩], bss ++ [nb], by simp, HS.out⟩
      case measure => simp [intOf]; omega
    · have hle := hd.le
      have hee : done.length = xs.length := by omega
      have HE := Lib.hid (hd.end hee (by unfold maxLen; omega) hfits.out)
      have hbl := hd.bel
      clear hd
      go_wp2_with fail
      go_ret
      obtain ⟨bs, h1, h2, h3⟩ := HE.out
      exact ⟨_, _, bs, rfl, h1, h2, h3, hbl⟩

set_option maxHeartbeats 1000000 in
theorem toO : ∀ d, ToO d
  | 0 => fun _ _ _ _ _ _ h => h.elim
  | d + 1 => by
    intro e a c w hfit hwt hk
    have hks := toKidsO d (toO d) a c e.kids
    have hw := Ex.wt_eq e
    have HK := Lib.hid (fun w' (hb : Below w.heap.size w w') => hk.below hb)
    clear hk
    go_enter Try.func21, Try.ntmps21
    go_wp2_with fail
    refine (hks _ (HK.out _ ?_) (by omega)).mono ?_
    · exact (((Below.refl _ _).alloc (Nat.le_refl _) _).alloc (by simp) _).alloc (by simp; omega) _
    rintro x w2 ⟨a2, c2, bs, rfl, hk2, hnd2, hnb2, hb2⟩
    have hB : Below w.heap.size w w2 := ((((Below.refl _ _).alloc (Nat.le_refl _) _).alloc (by simp) _).alloc (by simp; omega) _).trans (hb2.mono (by simp; omega))
    obtain ⟨hcw, hfw⟩ := bcellE hb2
    have g0 : w2.cell? ⟨w.heap.size + 1 + 1, 0, none⟩ = some (.int .i64 e.kind) := (hcw _ _ (by simp)).trans (by simp [go_sem])
    have g1 : w2.cell? ⟨w.heap.size + 1 + 1, 1, none⟩ = some (.string e.text) := (hcw _ _ (by simp)).trans (by simp [go_sem])
    have g2 : w2.cell? ⟨w.heap.size + 1 + 1, 2, none⟩ = some (.int .i64 e.num) := (hcw _ _ (by simp)).trans (by simp [go_sem])
    have g3 : w2.cell? ⟨w.heap.size + 1 + 1, 3, none⟩ = some (.slice none 0 0) := (hcw _ _ (by simp)).trans (by simp [go_sem])
    have z3 : w2.frozen? ⟨w.heap.size + 1 + 1, 3, none⟩ = false := (hfw _ _ (by simp)).trans (by simp [go_sem])
    have y0 : w2.cell? ⟨w.heap.size + 1, 0, none⟩ = some (.int .i64 0) := (hcw _ _ (by simp)).trans (by simp [go_sem])
    have y1 : w2.cell? ⟨w.heap.size + 1, 1, none⟩ = some (.string ByteArray.empty) := (hcw _ _ (by simp)).trans (by simp [go_sem]; rfl)
    have y2 : w2.cell? ⟨w.heap.size + 1, 2, none⟩ = some (.int .i64 0) := (hcw _ _ (by simp)).trans (by simp [go_sem])
    have y3 : w2.cell? ⟨w.heap.size + 1, 3, none⟩ = some (.slice none 0 0) := (hcw _ _ (by simp)).trans (by simp [go_sem])
    have x0 : w2.frozen? ⟨w.heap.size + 1, 0, none⟩ = false := (hfw _ _ (by simp)).trans (by simp [go_sem])
    have x1 : w2.frozen? ⟨w.heap.size + 1, 1, none⟩ = false := (hfw _ _ (by simp)).trans (by simp [go_sem])
    have x2 : w2.frozen? ⟨w.heap.size + 1, 2, none⟩ = false := (hfw _ _ (by simp)).trans (by simp [go_sem])
    have x3 : w2.frozen? ⟨w.heap.size + 1, 3, none⟩ = false := (hfw _ _ (by simp)).trans (by simp [go_sem])
    have HE : Hid ((∀ w5 : World, (∀ b, w.heap.size + 3 ≤ b → w5.heap[b]? = w2.heap[b]?) → KidsO w5 (d + 1) a2 c2 e.kids bs) ∧ bs.Nodup ∧ ∀ b ∈ bs, w.heap.size + 3 ≤ b) := by
      have hr : ∀ b ∈ bs, w.heap.size + 3 ≤ b := fun b hb => by have := hnb2 b hb; simp at this; omega
      exact ⟨fun w5 h2 => hk2.agree fun b hb => h2 b (hr b hb), hnd2, hr⟩
    have HB := Lib.hid hB
    clear hk2 hb2 hB hcw hfw hnd2 hnb2
    go_wp2_with fail
    refine bodyPost_ret (v := .agg #[.int .i64 e.kind, .string e.text, .int .i64 e.num, .slice a2 e.kids.length c2]) (by simp [results, Try.results21, go_sem, *]) rfl ⟨_, _, bs, rfl, HE.out.1 _ ?_, HE.out.2.1, fun b hb => by have := HE.out.2.2 b hb; omega, ?_⟩
    · intro b hb
      have ho : ∀ (wv : World) (q : Addr) (v : Value), q.block < w.heap.size + 3 → (wv.setCell q v).heap[b]? = wv.heap[b]? := fun wv q v hq => Below.heap_setCell _ _ _ _ (by omega)
      exact (ho _ _ _ (by simp)).trans ((ho _ _ _ (by simp)).trans ((ho _ _ _ (by simp)).trans ((ho _ _ _ (by simp)).trans (ho _ _ _ (by simp)))))
    · exact ((((HB.out.setCell (by simp; omega) _).setCell (by simp) _).setCell (by simp) _).setCell (by simp) _).setCell (by simp) _

end Go.Proofs.Ytdggcgipchijjaa
