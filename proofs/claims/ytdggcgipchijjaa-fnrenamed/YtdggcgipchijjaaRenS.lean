/- spec.Renamed: the tree, renamed, in new rows. -/
import Derived.Test.YtdggcgipchijjaaRenP
import Derived.Test.YtdggcgipchijjaaExBoxes
import Derived.Test.YtdggcgipchijjaaDrawEx
import Derived.Deep.RegionLaw
namespace Go.Proofs.Ytdggcgipchijjaa
open Go.RowKit

/-- What the specification's renaming answers. -/
def SpecR (w : World) (e : Ex) (x : Ending) (w' : World) : Prop :=
  ∃ es a c, x = .returned (.agg #[.int .i64 e.kind, .string e.text, .int .i64 e.num, .slice a es.length c]) ∧ es.map Es.e = e.kids ∧ Row w.heap.size w' a c es ∧ Below w.heap.size w w'

def RenSP (f t : ByteArray) (d : Nat) : Prop := ∀ (e : Ex) (a : Option Addr) (c : Nat) (w : World), e.fit → e.wt ≤ 1048576 → KidsAt w d a c e.kids →
  Calls Try.prog 17 #[.agg #[.int .i64 e.kind, .string e.text, .int .i64 e.num, .slice a e.kids.length c], .string f, .string t] w (SpecR w (renE f t e))

/-- What stands between two rounds. -/
structure MidS (w : World) (e : Ex) (a : Option Addr) (c : Nat) (s : ByteArray) (es : List Es) (ak : Option Addr) (ck : Nat) (wr : World) : Prop where
  box : Box4 wr w.heap.size e a c
  res : ExRow wr (w.heap.size + 1) 0 ⟨#[]⟩ 0 (.slice none 0 0)
  er : ExRow wr (w.heap.size + 2) e.kind s e.num (.slice ak es.length ck)
  row : Row (w.heap.size + 3) wr ak ck es
  bel : Below w.heap.size w wr

theorem MidS.below {w : World} {e : Ex} {a : Option Addr} {c : Nat} {s : ByteArray} {es : List Es} {ak : Option Addr} {ck : Nat} {wr w2 : World} (h : MidS w e a c s es ak ck wr) (hb : Below wr.heap.size wr w2) : MidS w e a c s es ak ck w2 :=
  ⟨h.box.below hb, h.res.below hb, h.er.below hb, h.row.below hb, h.bel.trans (hb.mono h.bel.size)⟩

theorem box4_kept {w w' : World} {b : Nat} {e : Ex} {a : Option Addr} {c : Nat} {row : Option Nat} (h : Box4 w b e a c) (hg : w.grownBy w' row) (hb : some b ≠ row) : Box4 w' b e a c := by
  obtain ⟨h0, h1, h2, h3, h4⟩ := h
  have ce : ∀ o, w'.cell? ⟨b, o, none⟩ = w.cell? ⟨b, o, none⟩ := fun o => hg.cell_far ⟨b, o, none⟩ h0 hb
  exact ⟨Nat.lt_of_lt_of_le h0 hg.size, (ce 0).trans h1, (ce 1).trans h2, (ce 2).trans h3, (ce 3).trans h4⟩

/-- One kid more. -/
theorem MidS.push {w : World} {e : Ex} {a : Option Addr} {c : Nat} {s : ByteArray} {es : List Es} {ak : Option Addr} {ck : Nat} {wr w2 w4 : World} (h : MidS w e a c s es ak ck wr) {x : Ex} {es2 : List Es} {a2 : Option Addr} {c2 : Nat} (hx : es2.map Es.e = x.kids) (hf : x.fit) (hrow : Row wr.heap.size w2 a2 c2 es2) (hb2 : Below wr.heap.size wr w2) {o : Obj} {g4 cap : Nat}
    (hown : w4.ownsRow (w.heap.size + 3) 26 4 (.slice (some ⟨g4, 0, none⟩) (es.length + 1) cap) (es.length + 1) (ecells es ++ [.int .i64 x.kind, .string x.text, .int .i64 x.num, .slice a2 es2.length c2])) (hg : (w2.alloc o).grownBy w4 (Value.slice ak es.length ck).ownBlock)
    (hat : (Value.slice ak es.length ck).ownBlock = some g4 ∨ g4 = (w2.alloc o).heap.size) :
    MidS w e a c s (es ++ [⟨x, a2, c2⟩]) (some ⟨g4, 0, none⟩) cap (w4.setCell ⟨w.heap.size + 2, 3, none⟩ (.slice (some ⟨g4, 0, none⟩) (es.length + 1) cap)) := by
  have hl2 : x.kids.length = es2.length := by rw [← hx]; simp
  have hl1 : (es ++ [(⟨x, a2, c2⟩ : Es)]).length = es.length + 1 := by simp
  have hRl := h.er.lt
  have hbk : ∀ b, (Value.slice ak es.length ck).ownBlock = some b → w.heap.size + 3 ≤ b ∧ b < wr.heap.size := fun b hb => h.row.own.lt b hb
  have h2 := h.below hb2
  have hb3 : Below w2.heap.size w2 (w2.alloc o) := (Below.refl _ _).alloc (Nat.le_refl _) o
  have h3 := h2.below hb3
  obtain ⟨dd, hk2⟩ := hrow.kids
  rw [hx] at hk2
  have hk3 : KidsQ (fun b => w.heap.size + 3 ≤ b ∧ (Value.slice ak es.length ck).ownBlock ≠ some b) (w2.alloc o) dd a2 c2 x.kids :=
    (hk2.toQ.imp (q' := fun b => w.heap.size + 3 ≤ b ∧ (Value.slice ak es.length ck).ownBlock ≠ some b) fun b hb _ => ⟨by omega, fun e => by have := (hbk b e).2; omega⟩).agree (by simp) fun b _ hb q => hb3.cell (p := ⟨b, q, none⟩) hb
  have r4 := h3.row.push (x := ⟨x, a2, c2⟩) hf hk3 (a' := some ⟨g4, 0, none⟩) (c' := cap) (w' := w4) (by
    have : (⟨x, a2, c2⟩ : Es).s = .slice a2 es2.length c2 := by unfold Es.s; simp only; rw [hl2]
    rw [this]; exact hown) hg (by
      rcases hat with e | e
      · left; rw [e]; rfl
      · right; rw [e]; rfl)
  have e4 := h3.er.kept hg (fun e => by have := (hbk _ e).1; omega)
  have b4 := h3.res.kept hg (fun e => by have := (hbk _ e).1; omega)
  have x4 := box4_kept h3.box hg (fun e => by have := (hbk _ e.symm).1; omega)
  have z4 := h3.bel.grown hg h3.bel.size (fun b hb => by have := (hbk b hb).1; omega)
  refine ⟨box4_kept x4 (grown_set w4 (w.heap.size + 2) 3 _) (by simp), b4.setO (by omega) _ _, by rw [hl1]; exact e4.set3 _, r4.set (by omega) _ _, z4.setCell (by show w.heap.size ≤ w.heap.size + 2; omega) _⟩

theorem midS_new (w : World) (e : Ex) (a : Option Addr) (c : Nat) (s : ByteArray) : MidS w e a c s [] none 0 (((w.alloc (.cells #[.int .i64 e.kind, .string e.text, .int .i64 e.num, .slice a e.kids.length c] 26)).alloc (.cells #[.int .i64 0, .string ⟨#[]⟩, .int .i64 0, .slice none 0 0] 26)).alloc (.cells #[.int .i64 e.kind, .string s, .int .i64 e.num, .slice none 0 0] 26)) := by
  refine ⟨((box4_new w 26 e a c).below ((Below.refl _ _).alloc (Nat.le_refl _) _)).below ((Below.refl _ _).alloc (Nat.le_refl _) _), ?_, ?_, Row.nil _ _, (((Below.refl _ _).alloc (Nat.le_refl _) _).alloc (by simp) _).alloc (by simp; omega) _⟩
  · have h1 := exRow_new (w.alloc (.cells #[.int .i64 e.kind, .string e.text, .int .i64 e.num, .slice a e.kids.length c] 26)) 0 ⟨#[]⟩ 0 (.slice none 0 0)
    have h2 := h1.alloc (.cells #[.int .i64 e.kind, .string s, .int .i64 e.num, .slice none 0 0] 26)
    simpa using h2
  · have h1 := exRow_new ((w.alloc (.cells #[.int .i64 e.kind, .string e.text, .int .i64 e.num, .slice a e.kids.length c] 26)).alloc (.cells #[.int .i64 0, .string ⟨#[]⟩, .int .i64 0, .slice none 0 0] 26)) e.kind s e.num (.slice none 0 0)
    simpa using h1

theorem renL_takeS (f t : ByteArray) (l : List Ex) (k : Nat) (h : k < l.length) : renL f t (l.take (k + 1)) = renL f t (l.take k) ++ [renE f t l[k]] := by
  rw [renL_map, renL_map, List.take_succ_eq_append_getElem h, List.map_append]
  rfl

set_option maxRecDepth 100000 in
set_option maxHeartbeats 4000000 in
theorem specRen (f t : ByteArray) (ht : t.size ≤ 1048576) : ∀ d, RenSP f t d
  | 0 => fun _ _ _ _ _ _ h => h.elim
  | d + 1 => by
    intro e a c w hfit hwt hk
    have ih := specRen f t ht d
    obtain ⟨i0, hi0, hz0, hz1, hz2⟩ := info_parts Try.infoExpr
    have hl := hk.len
    have HK := Lib.hid (fun w' hb => hk.below (w' := w') hb)
    have HW := Lib.hid (Ex.wt_eq e)
    clear hk
    by_cases hc : (e.kind == 0) = true ∧ (e.text.toList == f.toList) = true
    · obtain ⟨hk0, h1⟩ := hc
      have HR : Hid (rtx f t e.kind e.text = t) := by unfold Hid rtx; rw [if_pos ⟨hk0, h1⟩]
      have HM0 : Hid (MidS w e a c t [] none 0 (((w.alloc (.cells #[.int .i64 e.kind, .string e.text, .int .i64 e.num, .slice a e.kids.length c] 26)).alloc (.cells #[.int .i64 0, .string ⟨#[]⟩, .int .i64 0, .slice none 0 0] 26)).alloc (.cells #[.int .i64 e.kind, .string t, .int .i64 e.num, .slice none 0 0] 26))) := midS_new w e a c t
      generalize hks : e.kids = xs at *
      go_enter Try.func17, Try.ntmps17
      go_wp2_with fail
      go_loopw [8] (fun i wr => ∃ (es : List Es) (ak : Option Addr) (ck : Nat), i = .int .i64 (es.length : Int) ∧ es.length ≤ xs.length ∧ Hid (es.map Es.e = renL f t (xs.take es.length)) ∧ Hid (MidS w e a c t es ak ck wr)) (fun i _ => xs.length - (intOf i).toNat)
      case atStart => exact ⟨[], none, 0, rfl, Nat.zero_le _, by unfold Hid; simp [renL], HM0⟩
      case round =>
        obtain ⟨es, ak, ck, rfl, hle, HES, HM⟩ := hrel
        obtain ⟨_, x0, x1, x2, x3⟩ := HM.out.box
        rw [hks] at x3
        by_cases hlt : es.length < xs.length
        · have HMD := Lib.hid (HM.out.below (below_drewE (Below.refl _ _)))
          obtain ⟨b, off, rfl, hbl, hc0, hc1, hc2, hfitk, ax, cx, hc3, hkid⟩ := (HK.out _ HMD.out.bel).spot hlt
          have HX := Lib.hid hkid
          have HWk : Hid (xs[es.length].wt ≤ 1048576) := by have h1 := HW.out; have h2 := wtL_get hlt; unfold Hid; omega
          have HKE : Hid (∀ W, Below wr.drew.heap.size wr.drew W → W.cell? ⟨w.heap.size + 2, 3, none⟩ = some (.slice ak es.length ck) ∧ W.frozen? ⟨w.heap.size + 2, 3, none⟩ = false ∧ W.cell? ⟨w.heap.size, 3, none⟩ = some (.slice (some ⟨b, off, none⟩) xs.length c)) := fun W hb => by
            have hm := HMD.out.below hb
            obtain ⟨_, _, _, z3, zf⟩ := hm.er.cells
            refine ⟨z3, zf 3, ?_⟩
            have := hm.box.2.2.2.2
            rw [hks] at this
            exact this
          have HKK : Hid (∀ W o W', Below wr.drew.heap.size wr.drew W → (W.alloc o).grownBy W' (Value.slice ak es.length ck).ownBlock → W'.cell? ⟨w.heap.size + 2, 3, none⟩ = some (.slice ak es.length ck) ∧ W'.frozen? ⟨w.heap.size + 2, 3, none⟩ = false) := fun W o W' hb hg' => by
            obtain ⟨_, _, _, z3, zf⟩ := (((HMD.out.below hb).er.alloc o).kept hg' (fun e => by have := (HMD.out.row.own.lt _ e).1; omega)).cells
            exact ⟨z3, zf 3⟩
          obtain ⟨y3, yf, y0⟩ := HKE.out _ (Below.refl _ _)
          have hszW : w.heap.size + 2 < wr.drew.heap.size := HMD.out.er.lt
          have hlen : es.length ≤ 1048576 := by have := HW.out; omega
          have h0k : (0 : Int) ≤ (es.length : Int) := by omega
          have hkl : (es.length : Int) < (xs.length : Int) := by omega
          have HTK := Lib.hid (renL_takeS f t xs es.length hlt)
          have HFT : Hid ((renE f t xs[es.length]).fit) := by rw [renE_eq]; exact ⟨rtx_size (by unfold maxLen; omega) hfitk.1, hfitk.2.1, hfitk.2.2⟩
          clear hkid x0 x1 x2
          go_wp2_with fail
          go_region_law
            (first
              | (refine step_append_lies _ rfl (.tmp 35) (.tmp 44) 24 rfl (w.heap.size + 3) 26 i0 (.agg #[.int .i64 0, .string ByteArray.empty, .int .i64 0, .slice none 0 0]) 4 56 Try.underlying24 hi0 hz0 hz1 hz2 rfl (by decide) (.slice ak es.length ck) es.length (ecells es) rfl (HROW.out.alloc _).own ⟨w2'.heap.size, 0, none⟩ 1 1 [.int .i64 (renE f t xs[es.length]).kind, .string (renE f t xs[es.length]).text, .int .i64 (renE f t xs[es.length]).num, .slice a2 es2.length c2] rfl rfl (World.news_of_block (heap_alloc_new w2' _)) (fun u hu => by simp at hu; rcases hu with rfl | rfl | rfl | rfl <;> rfl) (by omega) (by unfold maxLen; omega) (by omega) (by simp; omega) _ rfl ?_; intro g4 cap4 w4 hown4 hg4 hat4 hlt4; obtain ⟨y5, y5f⟩ := HKK.out _ _ _ HG2.out hg4)
              | (go_simp; go_at_call 17; refine (ih xs[es.length] ax cx _ hfitk HWk.out HX.out).mono ?_; rintro x w2' ⟨es2, a2, c2, rfl, hx2, hrow2, hb2⟩; obtain ⟨y4, y4f, y40⟩ := HKE.out _ hb2; have HROW := Lib.hid (HMD.out.row.below hb2); have hsz2 := hb2.size; have hRw := Nat.lt_of_lt_of_le hszW hsz2; have HG2 := Lib.hid hb2; have HR2 := Lib.hid hrow2; have HX2 := Lib.hid hx2; clear hrow2 hx2 hb2))
          all_goals
            have hMP := Lib.hid (MidS.push HMD.out HX2.out HFT.out HR2.out HG2.out hown4 hg4 hat4)
            clear hown4 hg4 hat4
            go_wp2_with fail
            go_roundw
            case rel => exact ⟨es ++ [⟨renE f t xs[es.length], a2, c2⟩], some ⟨g4, 0, none⟩, cap4, by simp, by simp; omega, by unfold Hid; rw [List.map_append, HES.out, List.length_append]; simp only [List.length_cons, List.length_nil, Nat.zero_add]; rw [HTK.out]; rfl, hMP⟩
            case measure => simp [intOf]; omega
        · have hee : Hid (es.length = xs.length) := by unfold Hid; omega
          obtain ⟨r0, r1, r2, r3, rf⟩ := HM.out.er.cells
          obtain ⟨b0, b1, b2, b3, bf⟩ := HM.out.res.cells
          have hbr : w.heap.size + 1 ≠ w.heap.size + 2 := by omega
          have HMh := Lib.hid HM.out
          go_wp2_with fail
          refine bodyPost_ret (v := .agg #[.int .i64 e.kind, .string t, .int .i64 e.num, .slice ak es.length ck]) (by simp [results, Try.results17, go_sem, b0, b1, b2, b3]) rfl ?_
          refine ⟨es, ak, ck, by rw [renE_eq, HR.out]; rfl, by rw [HES.out, hee.out, List.take_length, renE_eq, ← hks]; rfl, ((((HMh.out.row.set (by omega) _ _).set (by omega) _ _).set (by omega) _ _).set (by omega) _ _).lower (by omega), ?_⟩
          exact (((HMh.out.bel.setCell (by simp) _).setCell (by simp) _).setCell (by simp) _).setCell (by simp) _
    · have HR : Hid (rtx f t e.kind e.text = e.text) := by unfold Hid rtx; rw [if_neg hc]
      by_cases hk0 : (e.kind == 0) = true
      · have h1 : (e.text.toList == f.toList) = false := by
          cases h : (e.text.toList == f.toList) with
          | false => rfl
          | true => exact absurd ⟨hk0, h⟩ hc
        clear hc
        have HM0 : Hid (MidS w e a c e.text [] none 0 (((w.alloc (.cells #[.int .i64 e.kind, .string e.text, .int .i64 e.num, .slice a e.kids.length c] 26)).alloc (.cells #[.int .i64 0, .string ⟨#[]⟩, .int .i64 0, .slice none 0 0] 26)).alloc (.cells #[.int .i64 e.kind, .string e.text, .int .i64 e.num, .slice none 0 0] 26))) := midS_new w e a c e.text
        generalize hks : e.kids = xs at *
        go_enter Try.func17, Try.ntmps17
        go_wp2_with fail
        go_loopw [8] (fun i wr => ∃ (es : List Es) (ak : Option Addr) (ck : Nat), i = .int .i64 (es.length : Int) ∧ es.length ≤ xs.length ∧ Hid (es.map Es.e = renL f t (xs.take es.length)) ∧ Hid (MidS w e a c e.text es ak ck wr)) (fun i _ => xs.length - (intOf i).toNat)
        case atStart => exact ⟨[], none, 0, rfl, Nat.zero_le _, by unfold Hid; simp [renL], HM0⟩
        case round =>
          obtain ⟨es, ak, ck, rfl, hle, HES, HM⟩ := hrel
          obtain ⟨_, x0, x1, x2, x3⟩ := HM.out.box
          rw [hks] at x3
          by_cases hlt : es.length < xs.length
          · have HMD := Lib.hid (HM.out.below (below_drewE (Below.refl _ _)))
            obtain ⟨b, off, rfl, hbl, hc0, hc1, hc2, hfitk, ax, cx, hc3, hkid⟩ := (HK.out _ HMD.out.bel).spot hlt
            have HX := Lib.hid hkid
            have HWk : Hid (xs[es.length].wt ≤ 1048576) := by have h1 := HW.out; have h2 := wtL_get hlt; unfold Hid; omega
            have HKE : Hid (∀ W, Below wr.drew.heap.size wr.drew W → W.cell? ⟨w.heap.size + 2, 3, none⟩ = some (.slice ak es.length ck) ∧ W.frozen? ⟨w.heap.size + 2, 3, none⟩ = false ∧ W.cell? ⟨w.heap.size, 3, none⟩ = some (.slice (some ⟨b, off, none⟩) xs.length c)) := fun W hb => by
              have hm := HMD.out.below hb
              obtain ⟨_, _, _, z3, zf⟩ := hm.er.cells
              refine ⟨z3, zf 3, ?_⟩
              have := hm.box.2.2.2.2
              rw [hks] at this
              exact this
            have HKK : Hid (∀ W o W', Below wr.drew.heap.size wr.drew W → (W.alloc o).grownBy W' (Value.slice ak es.length ck).ownBlock → W'.cell? ⟨w.heap.size + 2, 3, none⟩ = some (.slice ak es.length ck) ∧ W'.frozen? ⟨w.heap.size + 2, 3, none⟩ = false) := fun W o W' hb hg' => by
              obtain ⟨_, _, _, z3, zf⟩ := (((HMD.out.below hb).er.alloc o).kept hg' (fun e => by have := (HMD.out.row.own.lt _ e).1; omega)).cells
              exact ⟨z3, zf 3⟩
            obtain ⟨y3, yf, y0⟩ := HKE.out _ (Below.refl _ _)
            have hszW : w.heap.size + 2 < wr.drew.heap.size := HMD.out.er.lt
            have hlen : es.length ≤ 1048576 := by have := HW.out; omega
            have h0k : (0 : Int) ≤ (es.length : Int) := by omega
            have hkl : (es.length : Int) < (xs.length : Int) := by omega
            have HTK := Lib.hid (renL_takeS f t xs es.length hlt)
            have HFT : Hid ((renE f t xs[es.length]).fit) := by rw [renE_eq]; exact ⟨rtx_size (by unfold maxLen; omega) hfitk.1, hfitk.2.1, hfitk.2.2⟩
            clear hkid x0 x1 x2
            go_wp2_with fail
            go_region_law
              (first
                | (refine step_append_lies _ rfl (.tmp 35) (.tmp 44) 24 rfl (w.heap.size + 3) 26 i0 (.agg #[.int .i64 0, .string ByteArray.empty, .int .i64 0, .slice none 0 0]) 4 56 Try.underlying24 hi0 hz0 hz1 hz2 rfl (by decide) (.slice ak es.length ck) es.length (ecells es) rfl (HROW.out.alloc _).own ⟨w2'.heap.size, 0, none⟩ 1 1 [.int .i64 (renE f t xs[es.length]).kind, .string (renE f t xs[es.length]).text, .int .i64 (renE f t xs[es.length]).num, .slice a2 es2.length c2] rfl rfl (World.news_of_block (heap_alloc_new w2' _)) (fun u hu => by simp at hu; rcases hu with rfl | rfl | rfl | rfl <;> rfl) (by omega) (by unfold maxLen; omega) (by omega) (by simp; omega) _ rfl ?_; intro g4 cap4 w4 hown4 hg4 hat4 hlt4; obtain ⟨y5, y5f⟩ := HKK.out _ _ _ HG2.out hg4)
                | (go_simp; go_at_call 17; refine (ih xs[es.length] ax cx _ hfitk HWk.out HX.out).mono ?_; rintro x w2' ⟨es2, a2, c2, rfl, hx2, hrow2, hb2⟩; obtain ⟨y4, y4f, y40⟩ := HKE.out _ hb2; have HROW := Lib.hid (HMD.out.row.below hb2); have hsz2 := hb2.size; have hRw := Nat.lt_of_lt_of_le hszW hsz2; have HG2 := Lib.hid hb2; have HR2 := Lib.hid hrow2; have HX2 := Lib.hid hx2; clear hrow2 hx2 hb2))
            all_goals
              have hMP := Lib.hid (MidS.push HMD.out HX2.out HFT.out HR2.out HG2.out hown4 hg4 hat4)
              clear hown4 hg4 hat4
              go_wp2_with fail
              go_roundw
              case rel => exact ⟨es ++ [⟨renE f t xs[es.length], a2, c2⟩], some ⟨g4, 0, none⟩, cap4, by simp, by simp; omega, by unfold Hid; rw [List.map_append, HES.out, List.length_append]; simp only [List.length_cons, List.length_nil, Nat.zero_add]; rw [HTK.out]; rfl, hMP⟩
              case measure => simp [intOf]; omega
          · have hee : Hid (es.length = xs.length) := by unfold Hid; omega
            obtain ⟨r0, r1, r2, r3, rf⟩ := HM.out.er.cells
            obtain ⟨b0, b1, b2, b3, bf⟩ := HM.out.res.cells
            have hbr : w.heap.size + 1 ≠ w.heap.size + 2 := by omega
            have HMh := Lib.hid HM.out
            go_wp2_with fail
            refine bodyPost_ret (v := .agg #[.int .i64 e.kind, .string e.text, .int .i64 e.num, .slice ak es.length ck]) (by simp [results, Try.results17, go_sem, b0, b1, b2, b3]) rfl ?_
            refine ⟨es, ak, ck, by rw [renE_eq, HR.out]; rfl, by rw [HES.out, hee.out, List.take_length, renE_eq, ← hks]; rfl, ((((HMh.out.row.set (by omega) _ _).set (by omega) _ _).set (by omega) _ _).set (by omega) _ _).lower (by omega), ?_⟩
            exact (((HMh.out.bel.setCell (by simp) _).setCell (by simp) _).setCell (by simp) _).setCell (by simp) _
      · have hk0 : (e.kind == 0) = false := by simpa using hk0
        clear hc
        have HM0 : Hid (MidS w e a c e.text [] none 0 (((w.alloc (.cells #[.int .i64 e.kind, .string e.text, .int .i64 e.num, .slice a e.kids.length c] 26)).alloc (.cells #[.int .i64 0, .string ⟨#[]⟩, .int .i64 0, .slice none 0 0] 26)).alloc (.cells #[.int .i64 e.kind, .string e.text, .int .i64 e.num, .slice none 0 0] 26))) := midS_new w e a c e.text
        generalize hks : e.kids = xs at *
        go_enter Try.func17, Try.ntmps17
        go_wp2_with fail
        go_loopw [8] (fun i wr => ∃ (es : List Es) (ak : Option Addr) (ck : Nat), i = .int .i64 (es.length : Int) ∧ es.length ≤ xs.length ∧ Hid (es.map Es.e = renL f t (xs.take es.length)) ∧ Hid (MidS w e a c e.text es ak ck wr)) (fun i _ => xs.length - (intOf i).toNat)
        case atStart => exact ⟨[], none, 0, rfl, Nat.zero_le _, by unfold Hid; simp [renL], HM0⟩
        case round =>
          obtain ⟨es, ak, ck, rfl, hle, HES, HM⟩ := hrel
          obtain ⟨_, x0, x1, x2, x3⟩ := HM.out.box
          rw [hks] at x3
          by_cases hlt : es.length < xs.length
          · have HMD := Lib.hid (HM.out.below (below_drewE (Below.refl _ _)))
            obtain ⟨b, off, rfl, hbl, hc0, hc1, hc2, hfitk, ax, cx, hc3, hkid⟩ := (HK.out _ HMD.out.bel).spot hlt
            have HX := Lib.hid hkid
            have HWk : Hid (xs[es.length].wt ≤ 1048576) := by have h1 := HW.out; have h2 := wtL_get hlt; unfold Hid; omega
            have HKE : Hid (∀ W, Below wr.drew.heap.size wr.drew W → W.cell? ⟨w.heap.size + 2, 3, none⟩ = some (.slice ak es.length ck) ∧ W.frozen? ⟨w.heap.size + 2, 3, none⟩ = false ∧ W.cell? ⟨w.heap.size, 3, none⟩ = some (.slice (some ⟨b, off, none⟩) xs.length c)) := fun W hb => by
              have hm := HMD.out.below hb
              obtain ⟨_, _, _, z3, zf⟩ := hm.er.cells
              refine ⟨z3, zf 3, ?_⟩
              have := hm.box.2.2.2.2
              rw [hks] at this
              exact this
            have HKK : Hid (∀ W o W', Below wr.drew.heap.size wr.drew W → (W.alloc o).grownBy W' (Value.slice ak es.length ck).ownBlock → W'.cell? ⟨w.heap.size + 2, 3, none⟩ = some (.slice ak es.length ck) ∧ W'.frozen? ⟨w.heap.size + 2, 3, none⟩ = false) := fun W o W' hb hg' => by
              obtain ⟨_, _, _, z3, zf⟩ := (((HMD.out.below hb).er.alloc o).kept hg' (fun e => by have := (HMD.out.row.own.lt _ e).1; omega)).cells
              exact ⟨z3, zf 3⟩
            obtain ⟨y3, yf, y0⟩ := HKE.out _ (Below.refl _ _)
            have hszW : w.heap.size + 2 < wr.drew.heap.size := HMD.out.er.lt
            have hlen : es.length ≤ 1048576 := by have := HW.out; omega
            have h0k : (0 : Int) ≤ (es.length : Int) := by omega
            have hkl : (es.length : Int) < (xs.length : Int) := by omega
            have HTK := Lib.hid (renL_takeS f t xs es.length hlt)
            have HFT : Hid ((renE f t xs[es.length]).fit) := by rw [renE_eq]; exact ⟨rtx_size (by unfold maxLen; omega) hfitk.1, hfitk.2.1, hfitk.2.2⟩
            clear hkid x0 x1 x2
            go_wp2_with fail
            go_region_law
              (first
                | (refine step_append_lies _ rfl (.tmp 35) (.tmp 44) 24 rfl (w.heap.size + 3) 26 i0 (.agg #[.int .i64 0, .string ByteArray.empty, .int .i64 0, .slice none 0 0]) 4 56 Try.underlying24 hi0 hz0 hz1 hz2 rfl (by decide) (.slice ak es.length ck) es.length (ecells es) rfl (HROW.out.alloc _).own ⟨w2'.heap.size, 0, none⟩ 1 1 [.int .i64 (renE f t xs[es.length]).kind, .string (renE f t xs[es.length]).text, .int .i64 (renE f t xs[es.length]).num, .slice a2 es2.length c2] rfl rfl (World.news_of_block (heap_alloc_new w2' _)) (fun u hu => by simp at hu; rcases hu with rfl | rfl | rfl | rfl <;> rfl) (by omega) (by unfold maxLen; omega) (by omega) (by simp; omega) _ rfl ?_; intro g4 cap4 w4 hown4 hg4 hat4 hlt4; obtain ⟨y5, y5f⟩ := HKK.out _ _ _ HG2.out hg4)
                | (go_simp; go_at_call 17; refine (ih xs[es.length] ax cx _ hfitk HWk.out HX.out).mono ?_; rintro x w2' ⟨es2, a2, c2, rfl, hx2, hrow2, hb2⟩; obtain ⟨y4, y4f, y40⟩ := HKE.out _ hb2; have HROW := Lib.hid (HMD.out.row.below hb2); have hsz2 := hb2.size; have hRw := Nat.lt_of_lt_of_le hszW hsz2; have HG2 := Lib.hid hb2; have HR2 := Lib.hid hrow2; have HX2 := Lib.hid hx2; clear hrow2 hx2 hb2))
            all_goals
              have hMP := Lib.hid (MidS.push HMD.out HX2.out HFT.out HR2.out HG2.out hown4 hg4 hat4)
              clear hown4 hg4 hat4
              go_wp2_with fail
              go_roundw
              case rel => exact ⟨es ++ [⟨renE f t xs[es.length], a2, c2⟩], some ⟨g4, 0, none⟩, cap4, by simp, by simp; omega, by unfold Hid; rw [List.map_append, HES.out, List.length_append]; simp only [List.length_cons, List.length_nil, Nat.zero_add]; rw [HTK.out]; rfl, hMP⟩
              case measure => simp [intOf]; omega
          · have hee : Hid (es.length = xs.length) := by unfold Hid; omega
            obtain ⟨r0, r1, r2, r3, rf⟩ := HM.out.er.cells
            obtain ⟨b0, b1, b2, b3, bf⟩ := HM.out.res.cells
            have hbr : w.heap.size + 1 ≠ w.heap.size + 2 := by omega
            have HMh := Lib.hid HM.out
            go_wp2_with fail
            refine bodyPost_ret (v := .agg #[.int .i64 e.kind, .string e.text, .int .i64 e.num, .slice ak es.length ck]) (by simp [results, Try.results17, go_sem, b0, b1, b2, b3]) rfl ?_
            refine ⟨es, ak, ck, by rw [renE_eq, HR.out]; rfl, by rw [HES.out, hee.out, List.take_length, renE_eq, ← hks]; rfl, ((((HMh.out.row.set (by omega) _ _).set (by omega) _ _).set (by omega) _ _).set (by omega) _ _).lower (by omega), ?_⟩
            exact (((HMh.out.bel.setCell (by simp) _).setCell (by simp) _).setCell (by simp) _).setCell (by simp) _

end Go.Proofs.Ytdggcgipchijjaa
