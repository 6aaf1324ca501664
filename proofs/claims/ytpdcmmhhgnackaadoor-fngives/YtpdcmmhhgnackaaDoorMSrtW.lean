/- spec.l05Sort: the walk. -/
import Derived.Test.YtpdcmmhhgnackaaDoorMSrtS
namespace Go.Proofs.YtpdcmmhhgnackaaDoor
open Go.RowKit

/-- The column of a name: what it is. -/
def colF (cols : List Co) (s : ByteArray) : Option So := if 0 ≤ findAt Co.name cols s then (cols[(findAt Co.name cols s).toNat]?).map fun x => typS x.ty else none

def SrtP (ca : Option Addr) (cc : Nat) (cols : List Co) (la : Option Addr) (lc : Nat) (ls : List Lb) (w0 : World) (d : Nat) : Prop := ∀ (e : Ex) (ak : Option Addr) (ck : Nat) (W : World), Below w0.heap.size w0 W → KidsAt W d ak ck e.kids → e.all (okS (colF cols)) = true → e.nodes ≤ 1048577 →
  Calls Tryd.prog 43 #[.agg #[.int .i64 e.kind, .string e.text, .int .i64 e.num, .slice ak e.kids.length ck], .slice ca cols.length cc, .slice la ls.length lc] W fun x w' => ∃ s : So, x = .returned (.tuple #[s.v, .bool (srtE (colF cols) ls e).isSome]) ∧ (∀ t, srtE (colF cols) ls e = some t → s = t) ∧ Below W.heap.size W w'

def cellD (w : World) (a : Addr) : Value := (w.cell? a).getD (.bool false)

theorem cellD_some {w : World} {a : Addr} {v : Value} (h : w.cell? a = some v) : w.cell? a = some (cellD w a) := by
  unfold cellD
  rw [h]
  rfl

theorem drewB' {W w' : World} (h : Below W.drew.heap.size W.drew w') : Below W.heap.size W w' := (drewB (Below.refl _ W)).trans h

/-- The boxes of l05Sort. -/
def BS (w : World) (e : Ex) (ak : Option Addr) (ck : Nat) (W : World) : Prop :=
  Blk W w.heap.size [.int .i64 e.kind, .string e.text, .int .i64 e.num, .slice ak e.kids.length ck] ∧ Blk W (w.heap.size + 1) [.int .i64 0, .string ByteArray.empty] ∧ w.heap.size + 2 ≤ W.heap.size ∧ Below w.heap.size w W

theorem BS.below {w : World} {e : Ex} {ak : Option Addr} {ck : Nat} {W W' : World} (h : BS w e ak ck W) (hb : Below W.heap.size W W') : BS w e ak ck W' :=
  ⟨h.1.below hb, h.2.1.below hb, Nat.le_trans h.2.2.1 hb.size, Below.call hb h.2.2.2⟩

theorem BS.grown {w : World} {e : Ex} {ak : Option Addr} {ck : Nat} {W W' : World} {row : Option Nat} (h : BS w e ak ck W) (hg : W.grownBy W' row) (hr : ∀ q, row = some q → w.heap.size + 2 ≤ q) : BS w e ak ck W' := by
  have hB : Below (w.heap.size + 2) W W' := (Below.refl _ _).grown hg h.2.2.1 hr
  exact ⟨h.1.belowB hB (by omega), h.2.1.belowB hB (by omega), Nat.le_trans h.2.2.1 hB.size, h.2.2.2.trans (hB.mono (by omega))⟩

set_option maxRecDepth 100000 in
set_option maxHeartbeats 40000000 in
theorem specSortS (ca : Option Addr) (cc : Nat) (cols : List Co) (la : Option Addr) (lc : Nat) (ls : List Lb) (w0 : World) (hC : Sl 6 RCo 0 w0 ca cc cols) (hL : Lbs w0 la lc ls) (d : Nat) (ih : SrtP ca cc cols la lc ls w0 d) : SrtP ca cc cols la lc ls w0 (d + 1) := by
  intro e ak ck w hw hk hok hn
  obtain ⟨i0, hi0, hz0, hz1, hz2⟩ := info_parts Tryd.infoSort
  have hl := hk.len
  have hne := Ex.nodes_eq e
  rw [Ex.all_eq, Bool.and_eq_true] at hok
  have HOK := Lib.hid hok
  have HK := Lib.hid (fun w' hb => hk.below (w' := w') hb)
  have HE := Lib.hid (srtE_eq (colF cols) ls e)
  have HKL : Hid (e.kids.length ≤ 1048577) := by unfold Hid; have := nodesL_lenS e.kids; omega
  have HB0 : Hid (BS w e ak ck (((w.alloc (.cells #[.int .i64 e.kind, .string e.text, .int .i64 e.num, .slice ak e.kids.length ck] 26)).alloc (.cells #[.int .i64 0, .string ByteArray.empty] 39)).alloc (.cells #[] 39))) :=
    ⟨((blk_new w _ [.int .i64 e.kind, .string e.text, .int .i64 e.num, .slice ak e.kids.length ck]).alloc _).alloc _, (blk_new' (w := w.alloc _) (b := w.heap.size + 1) (by simp) _ [.int .i64 0, .string ByteArray.empty]).alloc _, by simp, (((Below.refl _ _).alloc (Nat.le_refl _) _).alloc (by simp) _).alloc (by simp; omega) _⟩
  have HO0 : Hid (OwnS (((w.alloc (.cells #[.int .i64 e.kind, .string e.text, .int .i64 e.num, .slice ak e.kids.length ck] 26)).alloc (.cells #[.int .i64 0, .string ByteArray.empty] 39)).alloc (.cells #[] 39)) (w.heap.size + 2) (some ⟨w.heap.size + 1 + 1, 0, none⟩) 0 []) := by
    have := World.ownsRow_lit (base := w.heap.size + 2) (e := 39) (size := 2) ((w.alloc (.cells #[.int .i64 e.kind, .string e.text, .int .i64 e.num, .slice ak e.kids.length ck] 26)).alloc (.cells #[.int .i64 0, .string ByteArray.empty] 39)) #[] 0 (by simp) (by unfold maxLen; omega) rfl
    have hsz : ((w.alloc (.cells #[.int .i64 e.kind, .string e.text, .int .i64 e.num, .slice ak e.kids.length ck] 26)).alloc (.cells #[.int .i64 0, .string ByteArray.empty] 39)).heap.size = w.heap.size + 1 + 1 := by simp
    rw [hsz] at this
    exact this
  clear hk hok
  generalize hks : e.kids = xs0 at *
  go_enter Tryd.func43, Tryd.ntmps43
  go_wp2_with fail
  go_loopw [8, 9] (fun v i wr => ∃ (k : Nat) (xs : List So) (ka : Option Addr) (kc : Nat), k ≤ xs0.length ∧ i = .int .i64 k ∧ v = .slice ka k kc ∧ Hid (xs.length = k ∧ srtL (colF cols) ls (xs0.take k) = some xs ∧ OwnS wr (w.heap.size + 2) ka kc xs ∧ BS w e ak ck wr)) (fun _ i _ => xs0.length - (intOf i).toNat)
  case atStart => exact ⟨0, [], _, _, Nat.zero_le _, rfl, rfl, rfl, by simp [srtL], HO0.out, HB0.out⟩
  case round =>
    obtain ⟨k, xs, ka, kc, hk, rfl, rfl, H⟩ := hrel
    have g0 : wr.cell? ⟨w.heap.size, 0, none⟩ = some (.int .i64 e.kind) := (H.out.2.2.2.1.2 0 (by simp)).1
    have g3 : wr.cell? ⟨w.heap.size, 3, none⟩ = some (.slice ak xs0.length ck) := by have := (H.out.2.2.2.1.2 3 (by simp)).1; rw [← hks]; exact this
    have hBw := H.out.2.2.2.2.2.2
    have hlt2 := H.out.2.2.2.2.2.1
    by_cases hlt : k < xs0.length
    · obtain ⟨b, off, rfl, hbl, hc0, hc1, hc2, hfit, a', c', hc3, hkid⟩ := (HK.out _ hBw).spot hlt
      have HX := Lib.hid (fun w' hb => hkid.below (w' := w') hb)
      have hnk : Hid (xs0[k].nodes ≤ 1048577) := by have := nodesL_getS hlt; unfold Hid; omega
      have hak : Hid (xs0[k].all (okS (colF cols)) = true) := allL_get HOK.out.2 hlt
      have hkb : k ≤ 1048577 := by have := HKL.out; omega
      have hW0 : Hid (Below w0.heap.size w0 wr) := hw.trans (hBw.mono hw.size)
      clear hkid
      go_wp2_with fail
      refine (ih xs0[k] a' c' _ hW0.out (HX.out _ (Below.refl _ _)) hak.out hnk.out).mono ?_
      have HT := Lib.hid (srtL_take (cf := colF cols) (ls := ls) hlt H.out.2.1)
      cases ho : srtE (colF cols) ls xs0[k] with
      | none =>
        simp only [Option.isSome_none]
        rintro x w2 ⟨⟨sk, sn⟩, rfl, _, hb2⟩
        have HC : Hid (srtE (colF cols) ls e = none) := by unfold Hid; rw [HE.out, HT.out.2 ho]
        have HB2 := Lib.hid (H.out.2.2.2.below hb2)
        have y0 : w2.cell? ⟨w.heap.size + 1, 0, none⟩ = some (.int .i64 0) := (HB2.out.2.1.2 0 (by simp)).1
        have y1 : w2.cell? ⟨w.heap.size + 1, 1, none⟩ = some (.string ByteArray.empty) := (HB2.out.2.1.2 1 (by simp)).1
        have f0 : w2.frozen? ⟨w.heap.size + 1, 0, none⟩ = false := (HB2.out.2.1.2 0 (by simp)).2
        have f1 : w2.frozen? ⟨w.heap.size + 1, 1, none⟩ = false := (HB2.out.2.1.2 1 (by simp)).2
        have hs2 := HB2.out.2.2.1
        have hn1 : w.heap.size + 1 < w2.heap.size := by omega
        have hn0 : w.heap.size < w2.heap.size := by omega
        clear ho hb2
        unfold So.v
        go_wp2_with fail
        refine bodyPost_ret (v := .tuple #[.agg #[.int .i64 0, .string ByteArray.empty], .bool false]) (by simp [results, Tryd.results43, go_sem, *]; rfl) rfl ⟨soK 0, (by rw [HC.out]; rfl), (by intro t ht; rw [HC.out] at ht; cases ht), ?_⟩
        refine Below.alloc ?_ (by first | omega | (simp; done) | (simp; omega) | (simp [World.setCell]; omega)) _
        refine Below.setCell ?_ (by first | omega | (simp; done) | (simp; omega) | (simp [World.setCell]; omega)) _
        refine Below.setCell ?_ (by first | omega | (simp; done) | (simp; omega) | (simp [World.setCell]; omega)) _
        exact HB2.out.2.2.2
      | some o =>
        simp only [Option.isSome_some]
        rintro x w2 ⟨s, rfl, hs, hb2⟩
        obtain rfl := hs o rfl
        obtain ⟨sk, sn⟩ := s
        have HB2 := Lib.hid (H.out.2.2.2.below hb2)
        have HO2 := Lib.hid (H.out.2.2.1.below hb2)
        have HC : Hid (srtL (colF cols) ls (xs0.take (k + 1)) = some (xs ++ [⟨sk, sn⟩])) := HT.out.1 _ ho
        have hs2 := HB2.out.2.2.1
        have hn1 : w.heap.size + 1 < w2.heap.size := by omega
        have hn0 : w.heap.size < w2.heap.size := by omega
        have hxl := H.out.1
        have H3 : Hid (∀ o1 o2, OwnS ((w2.alloc o1).alloc o2) (w.heap.size + 2) ka kc xs) := fun o1 o2 => HO2.out.below (((Below.refl _ _).alloc (Nat.le_refl _) o1).alloc (by simp) o2)
        clear ho hb2
        unfold So.v
        subst hxl
        go_wp2_with (at_builtin; refine wpAppendSo rfl _ _ rfl i0 hi0 hz0 hz1 hz2 (w.heap.size + 2) ka kc xs (w2.heap.size + 1) ⟨sk, sn⟩ rfl (H3.out _ _) rfl (by have := heap_alloc_new (w2.alloc (.cells #[.int .i64 sk, .string sn] 39)) (.cells #[.int .i64 sk, .string sn] 39); simpa using this) (by omega) (by simp; omega) ?_; intro a4 c4 w4 l4 hl4 hown4 hg4)
        have HR : Hid (l4.length = xs.length + 1 ∧ srtL (colF cols) ls (xs0.take (xs.length + 1)) = some l4 ∧ OwnS w4 (w.heap.size + 2) a4 c4 l4 ∧ BS w e (some ⟨b, off, none⟩) ck w4) := by
          refine ⟨by rw [hl4.out]; simp, by rw [hl4.out]; exact HC.out, hown4, ?_⟩
          refine BS.grown (HB2.out.below (((Below.refl _ _).alloc (Nat.le_refl _) _).alloc (by simp) _)) hg4 (fun q hq => (World.ownsRow.lt HO2.out q hq).1)
        have hl5 := HR.out.1
        clear hown4 hg4 hl4
        rw [hl5]
        go_wp2_with fail
        go_roundw
        case rel => exact ⟨xs.length + 1, l4, a4, c4, by omega, by go_num, rfl, HR⟩
        case measure => simp [intOf]; omega
    · obtain rfl : k = xs0.length := by omega
      have hol : Hid (srtL (colF cols) ls xs0 = some xs) := by have := H.out.2.1; rw [List.take_length] at this; exact this
      have HSL := Lib.hid H.out.2.2.1.sl
      have HOW : Hid (∀ g, (Value.slice ka xs.length kc).ownBlock = some g → w.heap.size + 2 ≤ g) := fun g hg => (World.ownsRow.lt H.out.2.2.1 g hg).1
      have hxl := H.out.1
      have hW0 : Hid (Below w0.heap.size w0 wr) := hw.trans (hBw.mono hw.size)
      have HEN : Hid (srtE (colF cols) ls e = nodeS (colF cols) ls e.kind e.text xs0 xs) := by unfold Hid; rw [HE.out, hol.out]
      have hn0 : w.heap.size < wr.heap.size := by omega
      have hn1 : w.heap.size + 1 < wr.heap.size := by omega
      have HBS := Lib.hid H.out.2.2.2
      have y0 : wr.cell? ⟨w.heap.size + 1, 0, none⟩ = some (.int .i64 0) := (HBS.out.2.1.2 0 (by simp)).1
      have y1 : wr.cell? ⟨w.heap.size + 1, 1, none⟩ = some (.string ByteArray.empty) := (HBS.out.2.1.2 1 (by simp)).1
      have f0 : wr.frozen? ⟨w.heap.size + 1, 0, none⟩ = false := (HBS.out.2.1.2 0 (by simp)).2
      have f1 : wr.frozen? ⟨w.heap.size + 1, 1, none⟩ = false := (HBS.out.2.1.2 1 (by simp)).2
      clear H
      cases h0 : (e.kind == 0) with
      | true =>
        have hsm : (colF cols e.text).isSome = true := by have := HOK.out.1; unfold okS at this; simp at this; exact this.1.resolve_left (fun h => h (by simpa using h0))
        have hfa : 0 ≤ findAt Co.name cols e.text := by
          unfold colF at hsm
          by_cases h : 0 ≤ findAt Co.name cols e.text
          · exact h
          · rw [if_neg h] at hsm; cases hsm
        obtain ⟨j, hj⟩ : ∃ j : Nat, findAt Co.name cols e.text = (j : Int) := ⟨(findAt Co.name cols e.text).toNat, by omega⟩
        have hjl : j < cols.length := by have := (findAt_small Co.name cols e.text).2; omega
        have HCF : Hid (srtE (colF cols) ls e = some (typS cols[j].ty)) := by
          unfold Hid
          rw [HEN.out]
          simp only [nodeS, h0, if_true]
          unfold colF
          rw [if_pos hfa, hj, Int.toNat_natCast, List.getElem?_eq_getElem hjl]
          rfl
        have g1 : wr.cell? ⟨w.heap.size, 1, none⟩ = some (.string e.text) := (HBS.out.1.2 1 (by simp)).1
        have HCS := Lib.hid (fun w' (hb : Below w0.heap.size w0 w') => hC.kept goodCo (Kept.below hb))
        go_wp2_with fail
        refine (specCol ca cc cols e.text _ (HCS.out _ (hW0.out.trans (((Below.refl _ _).alloc (Nat.le_refl _) _).mono hW0.out.size)))).mono ?_
        rw [hj]
        rintro x w2 ⟨rfl, b2⟩
        have HB2 := Lib.hid ((HBS.out.below ((Below.refl _ _).alloc (Nat.le_refl _) _)).below b2)
        have hW2 : Hid (Below w0.heap.size w0 w2) := hW0.out.trans ((Below.call b2 ((Below.refl _ _).alloc (Nat.le_refl _) _)).mono hW0.out.size)
        obtain ⟨b, off, us, rfl, hbl, hcs, hR⟩ := (HCS.out _ hW2.out).spot hjl
        obtain ⟨_, _, rfl, _⟩ := hR
        have c1 : w2.cell? ⟨b, off + j * 6 + 1, none⟩ = some (.int .i64 cols[j].ty.kind) := hcs 1 (by simp)
        have c2 : w2.cell? ⟨b, off + j * 6 + 2, none⟩ = some (.int .i64 cols[j].ty.len) := hcs 2 (by simp)
        have c3 : w2.cell? ⟨b, off + j * 6 + 3, none⟩ = some (.string cols[j].ty.name) := hcs 3 (by simp)
        have h0j : (0 : Int) ≤ (j : Int) := by omega
        have hjj : (j : Int) < (cols.length : Int) := by omega
        have HTY := Lib.hid (fun w' => (show Calls Tryd.prog 81 #[.agg #[.int .i64 cols[j].ty.kind, .int .i64 cols[j].ty.len, .string cols[j].ty.name]] w' fun e w'' => e = .returned (typS cols[j].ty).v ∧ Below w'.heap.size w' w'' from specTypeS _ _ _ w'))
        generalize typS cols[j].ty = ts at HTY HCF
        obtain ⟨tk, tn⟩ := ts
        unfold So.v at HTY
        clear hcs b2
        go_wp2_with fail
        refine (HTY.out _).mono ?_
        rintro x w3 ⟨rfl, b3⟩
        have HB3 := Lib.hid (HB2.out.below b3)
        have y0' : w3.cell? ⟨w.heap.size + 1, 0, none⟩ = some (.int .i64 0) := (HB3.out.2.1.2 0 (by simp)).1
        have y1' : w3.cell? ⟨w.heap.size + 1, 1, none⟩ = some (.string ByteArray.empty) := (HB3.out.2.1.2 1 (by simp)).1
        have f0' : w3.frozen? ⟨w.heap.size + 1, 0, none⟩ = false := (HB3.out.2.1.2 0 (by simp)).2
        have f1' : w3.frozen? ⟨w.heap.size + 1, 1, none⟩ = false := (HB3.out.2.1.2 1 (by simp)).2
        clear b3
        go_wp2_with fail
        refine bodyPost_ret (v := .tuple #[.agg #[.int .i64 tk, .string tn], .bool true]) (by simp [results, Tryd.results43, go_sem, *]) rfl ⟨⟨tk, tn⟩, (by rw [HCF.out]; rfl), (by intro t ht; rw [HCF.out] at ht; cases ht; rfl), ?_⟩
        refine Below.setCell ?_ (by first | omega | (simp; done) | (simp; omega)) _
        refine Below.setCell ?_ (by first | omega | (simp; done) | (simp; omega)) _
        exact HB3.out.2.2.2
      | false =>
      cases h1 : (e.kind == 1) with
      | true =>
        have HC : Hid (srtE (colF cols) ls e = some (soK 0)) := by unfold Hid; rw [HEN.out]; simp [nodeS, h0, h1]
        go_wp2_with fail
        refine bodyPost_ret (v := .tuple #[.agg #[.int .i64 0, .string ByteArray.empty], .bool true]) (by simp [results, Tryd.results43, go_sem, *]; rfl) rfl ⟨soK 0, (by rw [HC.out]; rfl), (by intro t ht; rw [HC.out] at ht; cases ht; rfl), ?_⟩
        refine Below.alloc ?_ (by first | omega | (simp; done) | (simp; omega) | (simp [World.setCell]; omega)) _
        refine Below.setCell ?_ (by first | omega | (simp; done) | (simp; omega) | (simp [World.setCell]; omega)) _
        refine Below.setCell ?_ (by first | omega | (simp; done) | (simp; omega) | (simp [World.setCell]; omega)) _
        exact hBw
      | false =>
      cases h2 : (e.kind == 2) with
      | true =>
        have HC : Hid (srtE (colF cols) ls e = some (soK 1)) := by unfold Hid; rw [HEN.out]; simp [nodeS, h0, h1, h2]
        go_wp2_with fail
        refine bodyPost_ret (v := .tuple #[.agg #[.int .i64 1, .string ByteArray.empty], .bool true]) (by simp [results, Tryd.results43, go_sem, *]; rfl) rfl ⟨soK 1, (by rw [HC.out]; rfl), (by intro t ht; rw [HC.out] at ht; cases ht; rfl), ?_⟩
        refine Below.alloc ?_ (by first | omega | (simp; done) | (simp; omega) | (simp [World.setCell]; omega)) _
        refine Below.setCell ?_ (by first | omega | (simp; done) | (simp; omega) | (simp [World.setCell]; omega)) _
        refine Below.setCell ?_ (by first | omega | (simp; done) | (simp; omega) | (simp [World.setCell]; omega)) _
        exact hBw
      | false =>
      cases h5 : (e.kind == 5) with
      | true =>
        have HC : Hid (srtE (colF cols) ls e = some (soK 4)) := by unfold Hid; rw [HEN.out]; simp [nodeS, h0, h1, h2, h5]
        go_wp2_with fail
        refine bodyPost_ret (v := .tuple #[.agg #[.int .i64 4, .string ByteArray.empty], .bool true]) (by simp [results, Tryd.results43, go_sem, *]; rfl) rfl ⟨soK 4, (by rw [HC.out]; rfl), (by intro t ht; rw [HC.out] at ht; cases ht; rfl), ?_⟩
        refine Below.alloc ?_ (by first | omega | (simp; done) | (simp; omega) | (simp [World.setCell]; omega)) _
        refine Below.setCell ?_ (by first | omega | (simp; done) | (simp; omega) | (simp [World.setCell]; omega)) _
        refine Below.setCell ?_ (by first | omega | (simp; done) | (simp; omega) | (simp [World.setCell]; omega)) _
        exact hBw
      | false =>
      cases h3 : (e.kind == 3) with
      | true =>
        have HC : Hid (srtE (colF cols) ls e = some (soK 2)) := by unfold Hid; rw [HEN.out]; simp [nodeS, h0, h1, h2, h5, h3]
        go_wp2_with fail
        refine bodyPost_ret (v := .tuple #[.agg #[.int .i64 2, .string ByteArray.empty], .bool true]) (by simp [results, Tryd.results43, go_sem, *]; rfl) rfl ⟨soK 2, (by rw [HC.out]; rfl), (by intro t ht; rw [HC.out] at ht; cases ht; rfl), ?_⟩
        refine Below.alloc ?_ (by first | omega | (simp; done) | (simp; omega) | (simp [World.setCell]; omega)) _
        refine Below.setCell ?_ (by first | omega | (simp; done) | (simp; omega) | (simp [World.setCell]; omega)) _
        refine Below.setCell ?_ (by first | omega | (simp; done) | (simp; omega) | (simp [World.setCell]; omega)) _
        exact hBw
      | false =>
      cases h4 : (e.kind == 4) with
      | true =>
        have HC : Hid (srtE (colF cols) ls e = some (soK 2)) := by unfold Hid; rw [HEN.out]; simp [nodeS, h0, h1, h2, h5, h3, h4]
        go_wp2_with fail
        refine bodyPost_ret (v := .tuple #[.agg #[.int .i64 2, .string ByteArray.empty], .bool true]) (by simp [results, Tryd.results43, go_sem, *]; rfl) rfl ⟨soK 2, (by rw [HC.out]; rfl), (by intro t ht; rw [HC.out] at ht; cases ht; rfl), ?_⟩
        refine Below.alloc ?_ (by first | omega | (simp; done) | (simp; omega) | (simp [World.setCell]; omega)) _
        refine Below.setCell ?_ (by first | omega | (simp; done) | (simp; omega) | (simp [World.setCell]; omega)) _
        refine Below.setCell ?_ (by first | omega | (simp; done) | (simp; omega) | (simp [World.setCell]; omega)) _
        exact hBw
      | false =>
      cases h7 : (e.kind == 7) with
      | true =>
        have HC : Hid (srtE (colF cols) ls e = some (soK 2)) := by unfold Hid; rw [HEN.out]; simp [nodeS, h0, h1, h2, h5, h3, h4, h7]
        go_wp2_with fail
        refine bodyPost_ret (v := .tuple #[.agg #[.int .i64 2, .string ByteArray.empty], .bool true]) (by simp [results, Tryd.results43, go_sem, *]; rfl) rfl ⟨soK 2, (by rw [HC.out]; rfl), (by intro t ht; rw [HC.out] at ht; cases ht; rfl), ?_⟩
        refine Below.alloc ?_ (by first | omega | (simp; done) | (simp; omega) | (simp [World.setCell]; omega)) _
        refine Below.setCell ?_ (by first | omega | (simp; done) | (simp; omega) | (simp [World.setCell]; omega)) _
        refine Below.setCell ?_ (by first | omega | (simp; done) | (simp; omega) | (simp [World.setCell]; omega)) _
        exact hBw
      | false =>
      obtain ⟨W1, hW⟩ : ∃ W1, W1 = (wr.alloc (.cells #[.int .i64 2, .string ⟨#[]⟩] 39)) := ⟨_, rfl⟩
      have hB1 : Below wr.heap.size wr W1 := by rw [hW]; exact (Below.refl _ _).alloc (Nat.le_refl _) _
      have z0 : W1.cell? ⟨wr.heap.size, 0, none⟩ = some (.int .i64 2) := by rw [hW]; simp [go_sem]
      have z1 : W1.cell? ⟨wr.heap.size, 1, none⟩ = some (.string ⟨#[]⟩) := by rw [hW]; simp [go_sem]
      have HBS1 := Lib.hid (HBS.out.below hB1)
      have HSL1 := Lib.hid (HSL.out.kept goodSo (Kept.below hB1))
      have hzl : wr.heap.size < W1.heap.size := by rw [hW]; simp
      have u0 : W1.cell? ⟨w.heap.size + 1, 0, none⟩ = some (.int .i64 0) := (HBS1.out.2.1.2 0 (by simp)).1
      have u1 : W1.cell? ⟨w.heap.size + 1, 1, none⟩ = some (.string ByteArray.empty) := (HBS1.out.2.1.2 1 (by simp)).1
      have v0 : W1.frozen? ⟨w.heap.size + 1, 0, none⟩ = false := (HBS1.out.2.1.2 0 (by simp)).2
      have v1 : W1.frozen? ⟨w.heap.size + 1, 1, none⟩ = false := (HBS1.out.2.1.2 1 (by simp)).2
      have hn1' : w.heap.size + 1 < W1.heap.size := by omega
      have hnz : ¬ (w.heap.size + 1 = wr.heap.size) := by omega
      have hW1 : Hid (Below w0.heap.size w0 W1) := hW0.out.trans (hB1.mono hW0.out.size)
      cases h6 : (e.kind == 6) with
      | true =>
        go_wp2_with fail
        rw [← hW]
        clear hW
        go_region_held3 (fun w' => w'.cell? ⟨wr.heap.size, 0, none⟩ = some (.int .i64 2) ∧ w'.cell? ⟨wr.heap.size, 1, none⟩ = some (.string ⟨#[]⟩) ∧ w'.cell? ⟨w.heap.size + 1, 0, none⟩ = some (cellD w' ⟨w.heap.size + 1, 0, none⟩) ∧ w'.cell? ⟨w.heap.size + 1, 1, none⟩ = some (cellD w' ⟨w.heap.size + 1, 1, none⟩) ∧ w'.frozen? ⟨w.heap.size + 1, 0, none⟩ = false ∧ w'.frozen? ⟨w.heap.size + 1, 1, none⟩ = false) (first | assumption | exact ⟨z0, z1, cellD_some u0, cellD_some u1, v0, v1⟩ | exact ⟨(hcw _ _ hzl).trans z0, (hcw _ _ hzl).trans z1, cellD_some ((hcw _ _ hn1').trans u0), cellD_some ((hcw _ _ hn1').trans u1), (hfw _ _ hn1').trans v0, (hfw _ _ hn1').trans v1⟩ | exact ⟨by simp [go_sem, *], by simp [go_sem, *], cellD_some (v := .int .i64 2) (by simp [go_sem, *]), cellD_some (v := .string ⟨#[]⟩) (by simp [go_sem, *]), by simp [*], by simp [*]⟩)
          ((go_at_call 84; rw [← hxl]; refine (specAllS ka kc xs 2 _ (HSL1.out.kept goodSo (Kept.below (drewB (Below.refl _ _))))).mono ?_; rintro x w2 ⟨rfl, b2⟩; obtain ⟨hcw, hfw⟩ := bcellE b2))
        have HB2 := Lib.hid (HBS1.out.below (drewB' b2))
        have y0' : w2.cell? ⟨w.heap.size + 1, 0, none⟩ = some (.int .i64 0) := (HB2.out.2.1.2 0 (by simp)).1
        have y1' : w2.cell? ⟨w.heap.size + 1, 1, none⟩ = some (.string ByteArray.empty) := (HB2.out.2.1.2 1 (by simp)).1
        have HC : Hid ((srtE (colF cols) ls e).isSome = (allS xs 2) ∧ ∀ t, srtE (colF cols) ls e = some t → soK 2 = t) := by
          have q : srtE (colF cols) ls e = if (allS xs 2) = true then some (soK 2) else none := by rw [HEN.out]; simp [nodeS, h0, h1, h2, h5, h3, h4, h7, h6]
          rw [q]
          cases (allS xs 2) with
          | true => exact ⟨rfl, fun t ht => by simpa using ht⟩
          | false => exact ⟨rfl, fun t ht => by cases ht⟩
        clear b2 hcw hfw
        go_wp2_with fail
        refine bodyPost_ret (v := .tuple #[.agg #[.int .i64 2, .string ByteArray.empty], .bool (allS xs 2)]) (by simp [results, Tryd.results43, go_sem, y0', y1']; rfl) rfl ⟨soK 2, (by rw [HC.out.1]; rfl), HC.out.2, ?_⟩
        refine Below.setCell ?_ (by first | omega | (simp; done) | (simp; omega) | (simp [World.setCell]; omega)) _
        refine Below.setCell ?_ (by first | omega | (simp; done) | (simp; omega) | (simp [World.setCell]; omega)) _
        exact HB2.out.2.2.2
      | false =>
      cases h8 : (e.kind == 8) with
      | true =>
        go_wp2_with fail
        rw [← hW]
        clear hW
        go_region_held3 (fun w' => w'.cell? ⟨wr.heap.size, 0, none⟩ = some (.int .i64 2) ∧ w'.cell? ⟨wr.heap.size, 1, none⟩ = some (.string ⟨#[]⟩) ∧ w'.cell? ⟨w.heap.size + 1, 0, none⟩ = some (cellD w' ⟨w.heap.size + 1, 0, none⟩) ∧ w'.cell? ⟨w.heap.size + 1, 1, none⟩ = some (cellD w' ⟨w.heap.size + 1, 1, none⟩) ∧ w'.frozen? ⟨w.heap.size + 1, 0, none⟩ = false ∧ w'.frozen? ⟨w.heap.size + 1, 1, none⟩ = false) (first | assumption | exact ⟨z0, z1, cellD_some u0, cellD_some u1, v0, v1⟩ | exact ⟨(hcw _ _ hzl).trans z0, (hcw _ _ hzl).trans z1, cellD_some ((hcw _ _ hn1').trans u0), cellD_some ((hcw _ _ hn1').trans u1), (hfw _ _ hn1').trans v0, (hfw _ _ hn1').trans v1⟩ | exact ⟨by simp [go_sem, *], by simp [go_sem, *], cellD_some (v := .int .i64 2) (by simp [go_sem, *]), cellD_some (v := .string ⟨#[]⟩) (by simp [go_sem, *]), by simp [*], by simp [*]⟩)
          ((go_at_call 84; rw [← hxl]; refine (specAllS ka kc xs 2 _ (HSL1.out.kept goodSo (Kept.below (drewB (Below.refl _ _))))).mono ?_; rintro x w2 ⟨rfl, b2⟩; obtain ⟨hcw, hfw⟩ := bcellE b2))
        have HB2 := Lib.hid (HBS1.out.below (drewB' b2))
        have y0' : w2.cell? ⟨w.heap.size + 1, 0, none⟩ = some (.int .i64 0) := (HB2.out.2.1.2 0 (by simp)).1
        have y1' : w2.cell? ⟨w.heap.size + 1, 1, none⟩ = some (.string ByteArray.empty) := (HB2.out.2.1.2 1 (by simp)).1
        have HC : Hid ((srtE (colF cols) ls e).isSome = (allS xs 2) ∧ ∀ t, srtE (colF cols) ls e = some t → soK 2 = t) := by
          have q : srtE (colF cols) ls e = if (allS xs 2) = true then some (soK 2) else none := by rw [HEN.out]; simp [nodeS, h0, h1, h2, h5, h3, h4, h7, h6, h8]
          rw [q]
          cases (allS xs 2) with
          | true => exact ⟨rfl, fun t ht => by simpa using ht⟩
          | false => exact ⟨rfl, fun t ht => by cases ht⟩
        clear b2 hcw hfw
        go_wp2_with fail
        refine bodyPost_ret (v := .tuple #[.agg #[.int .i64 2, .string ByteArray.empty], .bool (allS xs 2)]) (by simp [results, Tryd.results43, go_sem, y0', y1']; rfl) rfl ⟨soK 2, (by rw [HC.out.1]; rfl), HC.out.2, ?_⟩
        refine Below.setCell ?_ (by first | omega | (simp; done) | (simp; omega) | (simp [World.setCell]; omega)) _
        refine Below.setCell ?_ (by first | omega | (simp; done) | (simp; omega) | (simp [World.setCell]; omega)) _
        exact HB2.out.2.2.2
      | false =>
      cases h9 : (e.kind == 9) with
      | true =>
        go_wp2_with fail
        rw [← hW]
        clear hW
        go_region_held3 (fun w' => w'.cell? ⟨wr.heap.size, 0, none⟩ = some (.int .i64 2) ∧ w'.cell? ⟨wr.heap.size, 1, none⟩ = some (.string ⟨#[]⟩) ∧ w'.cell? ⟨w.heap.size + 1, 0, none⟩ = some (cellD w' ⟨w.heap.size + 1, 0, none⟩) ∧ w'.cell? ⟨w.heap.size + 1, 1, none⟩ = some (cellD w' ⟨w.heap.size + 1, 1, none⟩) ∧ w'.frozen? ⟨w.heap.size + 1, 0, none⟩ = false ∧ w'.frozen? ⟨w.heap.size + 1, 1, none⟩ = false) (first | assumption | exact ⟨z0, z1, cellD_some u0, cellD_some u1, v0, v1⟩ | exact ⟨(hcw _ _ hzl).trans z0, (hcw _ _ hzl).trans z1, cellD_some ((hcw _ _ hn1').trans u0), cellD_some ((hcw _ _ hn1').trans u1), (hfw _ _ hn1').trans v0, (hfw _ _ hn1').trans v1⟩ | exact ⟨by simp [go_sem, *], by simp [go_sem, *], cellD_some (v := .int .i64 2) (by simp [go_sem, *]), cellD_some (v := .string ⟨#[]⟩) (by simp [go_sem, *]), by simp [*], by simp [*]⟩)
          ((go_at_call 84; rw [← hxl]; refine (specAllS ka kc xs 2 _ (HSL1.out.kept goodSo (Kept.below (drewB (Below.refl _ _))))).mono ?_; rintro x w2 ⟨rfl, b2⟩; obtain ⟨hcw, hfw⟩ := bcellE b2))
        have HB2 := Lib.hid (HBS1.out.below (drewB' b2))
        have y0' : w2.cell? ⟨w.heap.size + 1, 0, none⟩ = some (.int .i64 0) := (HB2.out.2.1.2 0 (by simp)).1
        have y1' : w2.cell? ⟨w.heap.size + 1, 1, none⟩ = some (.string ByteArray.empty) := (HB2.out.2.1.2 1 (by simp)).1
        have HC : Hid ((srtE (colF cols) ls e).isSome = (allS xs 2) ∧ ∀ t, srtE (colF cols) ls e = some t → soK 2 = t) := by
          have q : srtE (colF cols) ls e = if (allS xs 2) = true then some (soK 2) else none := by rw [HEN.out]; simp [nodeS, h0, h1, h2, h5, h3, h4, h7, h6, h8, h9]
          rw [q]
          cases (allS xs 2) with
          | true => exact ⟨rfl, fun t ht => by simpa using ht⟩
          | false => exact ⟨rfl, fun t ht => by cases ht⟩
        clear b2 hcw hfw
        go_wp2_with fail
        refine bodyPost_ret (v := .tuple #[.agg #[.int .i64 2, .string ByteArray.empty], .bool (allS xs 2)]) (by simp [results, Tryd.results43, go_sem, y0', y1']; rfl) rfl ⟨soK 2, (by rw [HC.out.1]; rfl), HC.out.2, ?_⟩
        refine Below.setCell ?_ (by first | omega | (simp; done) | (simp; omega) | (simp [World.setCell]; omega)) _
        refine Below.setCell ?_ (by first | omega | (simp; done) | (simp; omega) | (simp [World.setCell]; omega)) _
        exact HB2.out.2.2.2
      | false =>
      cases h10 : (e.kind == 10) with
      | true =>
        have h2l : xs0.length = 2 := by have := HOK.out.1; unfold okS at this; rw [hks] at this; simp [h0, h10] at this; exact this.2
        have h2x : xs.length = 2 := by omega
        obtain ⟨x, y, rfl⟩ : ∃ x y, xs0 = [x, y] := by
          match xs0, h2l with
          | [x, y], _ => exact ⟨x, y, rfl⟩
        obtain ⟨⟨sk1, sn1⟩, ⟨sk2, sn2⟩, rfl⟩ : ∃ s1 s2, xs = [s1, s2] := by
          match xs, h2x with
          | [s1, s2], _ => exact ⟨s1, s2, rfl⟩
        obtain ⟨kb, ko, us, rfl, hkl, hcs, hR⟩ := HSL1.out.spot (i := 0) (by simp)
        obtain ⟨kb', ko', us', hab, _, hcs', hR'⟩ := HSL1.out.spot (i := 1) (by simp)
        cases hab
        unfold RSo at hR hR'
        subst hR hR'
        have k0 : W1.cell? ⟨kb, ko, none⟩ = some (.int .i64 sk1) := hcs 0 (by simp)
        have k1 : W1.cell? ⟨kb, ko + 1, none⟩ = some (.string sn1) := hcs 1 (by simp)
        have k2 : W1.cell? ⟨kb, ko + 2, none⟩ = some (.int .i64 sk2) := hcs' 0 (by simp)
        have k3 : W1.cell? ⟨kb, ko + 2 + 1, none⟩ = some (.string sn2) := hcs' 1 (by simp)
        have e0 : W1.cell? ⟨w.heap.size, 0, none⟩ = some (.int .i64 e.kind) := (HBS1.out.1.2 0 (by simp)).1
        have e1 : W1.cell? ⟨w.heap.size, 1, none⟩ = some (.string e.text) := (HBS1.out.1.2 1 (by simp)).1
        have e2 : W1.cell? ⟨w.heap.size, 2, none⟩ = some (.int .i64 e.num) := (HBS1.out.1.2 2 (by simp)).1
        have e3 : W1.cell? ⟨w.heap.size, 3, none⟩ = some (.slice ak 2 ck) := by have := (HBS1.out.1.2 3 (by simp)).1; rw [hks] at this; exact this
        have HFit := Lib.hid (fun w' (hb : Below W1.heap.size W1 w') => specFit e x y ak ck d ⟨sk1, sn1⟩ ⟨sk2, sn2⟩ la lc ls w' (by rw [hks]; exact HK.out _ (HBS1.out.2.2.2.trans (hb.mono HBS1.out.2.2.2.size))) hks (hL.below (hW1.out.trans (hb.mono hW1.out.size))))
        rw [hks] at HFit
        unfold So.v at HFit
        clear hcs hcs'
        have hnn : w.heap.size < W1.heap.size := by omega
        have hkn : ¬ (w.heap.size + 1 = kb) := by have := HOW.out kb rfl; omega
        go_wp2_with fail
        rw [← hW]
        clear hW
        go_region_held3 (fun w' => w'.cell? ⟨wr.heap.size, 0, none⟩ = some (.int .i64 2) ∧ w'.cell? ⟨wr.heap.size, 1, none⟩ = some (.string ⟨#[]⟩) ∧ w'.cell? ⟨w.heap.size + 1, 0, none⟩ = some (cellD w' ⟨w.heap.size + 1, 0, none⟩) ∧ w'.cell? ⟨w.heap.size + 1, 1, none⟩ = some (cellD w' ⟨w.heap.size + 1, 1, none⟩) ∧ w'.frozen? ⟨w.heap.size + 1, 0, none⟩ = false ∧ w'.frozen? ⟨w.heap.size + 1, 1, none⟩ = false ∧ w'.cell? ⟨kb, ko, none⟩ = some (.int .i64 sk1) ∧ w'.cell? ⟨kb, ko + 1, none⟩ = some (.string sn1) ∧ w'.cell? ⟨kb, ko + 2, none⟩ = some (.int .i64 sk2) ∧ w'.cell? ⟨kb, ko + 2 + 1, none⟩ = some (.string sn2) ∧ w'.cell? ⟨w.heap.size, 0, none⟩ = some (.int .i64 e.kind) ∧ w'.cell? ⟨w.heap.size, 1, none⟩ = some (.string e.text) ∧ w'.cell? ⟨w.heap.size, 2, none⟩ = some (.int .i64 e.num) ∧ w'.cell? ⟨w.heap.size, 3, none⟩ = some (.slice ak 2 ck)) (first | assumption | exact ⟨z0, z1, cellD_some u0, cellD_some u1, v0, v1, k0, k1, k2, k3, e0, e1, e2, e3⟩ | exact ⟨(hcw _ _ hzl).trans z0, (hcw _ _ hzl).trans z1, cellD_some ((hcw _ _ hn1').trans u0), cellD_some ((hcw _ _ hn1').trans u1), (hfw _ _ hn1').trans v0, (hfw _ _ hn1').trans v1, (hcw _ _ hkl).trans k0, (hcw _ _ hkl).trans k1, (hcw _ _ hkl).trans k2, (hcw _ _ hkl).trans k3, (hcw _ _ hnn).trans e0, (hcw _ _ hnn).trans e1, (hcw _ _ hnn).trans e2, (hcw _ _ hnn).trans e3⟩ | exact ⟨by simp [go_sem, *], by simp [go_sem, *], cellD_some (v := .int .i64 2) (by simp [go_sem, *]), cellD_some (v := .string ⟨#[]⟩) (by simp [go_sem, *]), by simp [*], by simp [*], by simp [go_sem, *], by simp [go_sem, *], by simp [go_sem, *], by simp [go_sem, *], by simp [go_sem, *], by simp [go_sem, *], by simp [go_sem, *], by simp [go_sem, *]⟩)
          ((go_at_call 85; refine (HFit.out _ (drewB (Below.refl _ _))).mono ?_; rintro x' w2 ⟨rfl, b2⟩; obtain ⟨hcw, hfw⟩ := bcellE b2))
        have HB2 := Lib.hid (HBS1.out.below (drewB' b2))
        have y0' : w2.cell? ⟨w.heap.size + 1, 0, none⟩ = some (.int .i64 0) := (HB2.out.2.1.2 0 (by simp)).1
        have y1' : w2.cell? ⟨w.heap.size + 1, 1, none⟩ = some (.string ByteArray.empty) := (HB2.out.2.1.2 1 (by simp)).1
        have HC : Hid ((srtE (colF cols) ls e).isSome = (fitS ls x y ⟨sk1, sn1⟩ ⟨sk2, sn2⟩) ∧ ∀ t, srtE (colF cols) ls e = some t → soK 2 = t) := by
          have q : srtE (colF cols) ls e = if (fitS ls x y ⟨sk1, sn1⟩ ⟨sk2, sn2⟩) = true then some (soK 2) else none := by rw [HEN.out]; simp [nodeS, h0, h1, h2, h5, h3, h4, h7, h6, h8, h9, h10]
          rw [q]
          cases (fitS ls x y ⟨sk1, sn1⟩ ⟨sk2, sn2⟩) with
          | true => exact ⟨rfl, fun t ht => by simpa using ht⟩
          | false => exact ⟨rfl, fun t ht => by cases ht⟩
        clear b2 hcw hfw
        go_wp2_with fail
        refine bodyPost_ret (v := .tuple #[.agg #[.int .i64 2, .string ByteArray.empty], .bool (fitS ls x y ⟨sk1, sn1⟩ ⟨sk2, sn2⟩)]) (by simp [results, Tryd.results43, go_sem, y0', y1']; rfl) rfl ⟨soK 2, (by rw [HC.out.1]; rfl), HC.out.2, ?_⟩
        refine Below.setCell ?_ (by first | omega | (simp; done) | (simp; omega) | (simp [World.setCell]; omega)) _
        refine Below.setCell ?_ (by first | omega | (simp; done) | (simp; omega) | (simp [World.setCell]; omega)) _
        exact HB2.out.2.2.2
      | false =>
      cases h11 : (e.kind == 11) with
      | true =>
        have h2l : xs0.length = 2 := by have := HOK.out.1; unfold okS at this; rw [hks] at this; simp [h0, h11] at this; exact this.2
        have h2x : xs.length = 2 := by omega
        obtain ⟨x, y, rfl⟩ : ∃ x y, xs0 = [x, y] := by
          match xs0, h2l with
          | [x, y], _ => exact ⟨x, y, rfl⟩
        obtain ⟨⟨sk1, sn1⟩, ⟨sk2, sn2⟩, rfl⟩ : ∃ s1 s2, xs = [s1, s2] := by
          match xs, h2x with
          | [s1, s2], _ => exact ⟨s1, s2, rfl⟩
        obtain ⟨kb, ko, us, rfl, hkl, hcs, hR⟩ := HSL1.out.spot (i := 0) (by simp)
        obtain ⟨kb', ko', us', hab, _, hcs', hR'⟩ := HSL1.out.spot (i := 1) (by simp)
        cases hab
        unfold RSo at hR hR'
        subst hR hR'
        have k0 : W1.cell? ⟨kb, ko, none⟩ = some (.int .i64 sk1) := hcs 0 (by simp)
        have k1 : W1.cell? ⟨kb, ko + 1, none⟩ = some (.string sn1) := hcs 1 (by simp)
        have k2 : W1.cell? ⟨kb, ko + 2, none⟩ = some (.int .i64 sk2) := hcs' 0 (by simp)
        have k3 : W1.cell? ⟨kb, ko + 2 + 1, none⟩ = some (.string sn2) := hcs' 1 (by simp)
        have e0 : W1.cell? ⟨w.heap.size, 0, none⟩ = some (.int .i64 e.kind) := (HBS1.out.1.2 0 (by simp)).1
        have e1 : W1.cell? ⟨w.heap.size, 1, none⟩ = some (.string e.text) := (HBS1.out.1.2 1 (by simp)).1
        have e2 : W1.cell? ⟨w.heap.size, 2, none⟩ = some (.int .i64 e.num) := (HBS1.out.1.2 2 (by simp)).1
        have e3 : W1.cell? ⟨w.heap.size, 3, none⟩ = some (.slice ak 2 ck) := by have := (HBS1.out.1.2 3 (by simp)).1; rw [hks] at this; exact this
        have HFit := Lib.hid (fun w' (hb : Below W1.heap.size W1 w') => specFit e x y ak ck d ⟨sk1, sn1⟩ ⟨sk2, sn2⟩ la lc ls w' (by rw [hks]; exact HK.out _ (HBS1.out.2.2.2.trans (hb.mono HBS1.out.2.2.2.size))) hks (hL.below (hW1.out.trans (hb.mono hW1.out.size))))
        rw [hks] at HFit
        unfold So.v at HFit
        clear hcs hcs'
        have hnn : w.heap.size < W1.heap.size := by omega
        have hkn : ¬ (w.heap.size + 1 = kb) := by have := HOW.out kb rfl; omega
        go_wp2_with fail
        rw [← hW]
        clear hW
        go_region_held3 (fun w' => w'.cell? ⟨wr.heap.size, 0, none⟩ = some (.int .i64 2) ∧ w'.cell? ⟨wr.heap.size, 1, none⟩ = some (.string ⟨#[]⟩) ∧ w'.cell? ⟨w.heap.size + 1, 0, none⟩ = some (cellD w' ⟨w.heap.size + 1, 0, none⟩) ∧ w'.cell? ⟨w.heap.size + 1, 1, none⟩ = some (cellD w' ⟨w.heap.size + 1, 1, none⟩) ∧ w'.frozen? ⟨w.heap.size + 1, 0, none⟩ = false ∧ w'.frozen? ⟨w.heap.size + 1, 1, none⟩ = false ∧ w'.cell? ⟨kb, ko, none⟩ = some (.int .i64 sk1) ∧ w'.cell? ⟨kb, ko + 1, none⟩ = some (.string sn1) ∧ w'.cell? ⟨kb, ko + 2, none⟩ = some (.int .i64 sk2) ∧ w'.cell? ⟨kb, ko + 2 + 1, none⟩ = some (.string sn2) ∧ w'.cell? ⟨w.heap.size, 0, none⟩ = some (.int .i64 e.kind) ∧ w'.cell? ⟨w.heap.size, 1, none⟩ = some (.string e.text) ∧ w'.cell? ⟨w.heap.size, 2, none⟩ = some (.int .i64 e.num) ∧ w'.cell? ⟨w.heap.size, 3, none⟩ = some (.slice ak 2 ck)) (first | assumption | exact ⟨z0, z1, cellD_some u0, cellD_some u1, v0, v1, k0, k1, k2, k3, e0, e1, e2, e3⟩ | exact ⟨(hcw _ _ hzl).trans z0, (hcw _ _ hzl).trans z1, cellD_some ((hcw _ _ hn1').trans u0), cellD_some ((hcw _ _ hn1').trans u1), (hfw _ _ hn1').trans v0, (hfw _ _ hn1').trans v1, (hcw _ _ hkl).trans k0, (hcw _ _ hkl).trans k1, (hcw _ _ hkl).trans k2, (hcw _ _ hkl).trans k3, (hcw _ _ hnn).trans e0, (hcw _ _ hnn).trans e1, (hcw _ _ hnn).trans e2, (hcw _ _ hnn).trans e3⟩ | exact ⟨by simp [go_sem, *], by simp [go_sem, *], cellD_some (v := .int .i64 2) (by simp [go_sem, *]), cellD_some (v := .string ⟨#[]⟩) (by simp [go_sem, *]), by simp [*], by simp [*], by simp [go_sem, *], by simp [go_sem, *], by simp [go_sem, *], by simp [go_sem, *], by simp [go_sem, *], by simp [go_sem, *], by simp [go_sem, *], by simp [go_sem, *]⟩)
          ((go_at_call 85; refine (HFit.out _ (drewB (Below.refl _ _))).mono ?_; rintro x' w2 ⟨rfl, b2⟩; obtain ⟨hcw, hfw⟩ := bcellE b2))
        have HB2 := Lib.hid (HBS1.out.below (drewB' b2))
        have y0' : w2.cell? ⟨w.heap.size + 1, 0, none⟩ = some (.int .i64 0) := (HB2.out.2.1.2 0 (by simp)).1
        have y1' : w2.cell? ⟨w.heap.size + 1, 1, none⟩ = some (.string ByteArray.empty) := (HB2.out.2.1.2 1 (by simp)).1
        have HC : Hid ((srtE (colF cols) ls e).isSome = (fitS ls x y ⟨sk1, sn1⟩ ⟨sk2, sn2⟩) ∧ ∀ t, srtE (colF cols) ls e = some t → soK 2 = t) := by
          have q : srtE (colF cols) ls e = if (fitS ls x y ⟨sk1, sn1⟩ ⟨sk2, sn2⟩) = true then some (soK 2) else none := by rw [HEN.out]; simp [nodeS, h0, h1, h2, h5, h3, h4, h7, h6, h8, h9, h10, h11]
          rw [q]
          cases (fitS ls x y ⟨sk1, sn1⟩ ⟨sk2, sn2⟩) with
          | true => exact ⟨rfl, fun t ht => by simpa using ht⟩
          | false => exact ⟨rfl, fun t ht => by cases ht⟩
        clear b2 hcw hfw
        go_wp2_with fail
        refine bodyPost_ret (v := .tuple #[.agg #[.int .i64 2, .string ByteArray.empty], .bool (fitS ls x y ⟨sk1, sn1⟩ ⟨sk2, sn2⟩)]) (by simp [results, Tryd.results43, go_sem, y0', y1']; rfl) rfl ⟨soK 2, (by rw [HC.out.1]; rfl), HC.out.2, ?_⟩
        refine Below.setCell ?_ (by first | omega | (simp; done) | (simp; omega) | (simp [World.setCell]; omega)) _
        refine Below.setCell ?_ (by first | omega | (simp; done) | (simp; omega) | (simp [World.setCell]; omega)) _
        exact HB2.out.2.2.2
      | false =>
      cases h12 : (e.kind == 12) with
      | true =>
        have HS0 := Lib.hid (fun w' (hb : Below W1.heap.size W1 w') => specAllS ka kc xs 0 w' (HSL1.out.kept goodSo (Kept.below hb)))
        have HS1 := Lib.hid (fun w' (hb : Below W1.heap.size W1 w') => specAllS ka kc xs 1 w' (HSL1.out.kept goodSo (Kept.below hb)))
        rw [hxl] at HS0 HS1
        have HC : Hid ((srtE (colF cols) ls e).isSome = (allS xs 0 || allS xs 1) ∧ ∀ t, srtE (colF cols) ls e = some t → soK 2 = t) := by
          have q : srtE (colF cols) ls e = if (allS xs 0 || allS xs 1) = true then some (soK 2) else none := by rw [HEN.out]; unfold nodeS; simp only [h0, h1, h2, h5, h3, h4, h7, h6, h8, h9, h10, h11, h12, Bool.false_eq_true, if_false, false_or, or_false, true_or, or_true, if_true]
          rw [q]
          cases (allS xs 0 || allS xs 1) with
          | true => exact ⟨rfl, fun t ht => by simpa using ht⟩
          | false => exact ⟨rfl, fun t ht => by cases ht⟩
        cases ha : allS xs 0 with
        | true =>
          rw [ha] at HS0
          go_wp2_with fail
          rw [← hW]
          clear hW
          refine wp_region_noPanic ?_
          refine wp_region_held_drew (S := fun w' => w'.cell? ⟨wr.heap.size, 0, none⟩ = some (.int .i64 2) ∧ w'.cell? ⟨wr.heap.size, 1, none⟩ = some (.string ⟨#[]⟩) ∧ w'.cell? ⟨w.heap.size + 1, 0, none⟩ = some (cellD w' ⟨w.heap.size + 1, 0, none⟩) ∧ w'.cell? ⟨w.heap.size + 1, 1, none⟩ = some (cellD w' ⟨w.heap.size + 1, 1, none⟩) ∧ w'.frozen? ⟨w.heap.size + 1, 0, none⟩ = false ∧ w'.frozen? ⟨w.heap.size + 1, 1, none⟩ = false) (by kernel_rfl) ⟨z0, z1, cellD_some u0, cellD_some u1, v0, v1⟩ (fun hHeld => ?_)
          refine wpAnyH_take (i := 0) (v := ?_) rfl (by kernel_rfl) (by kernel_rfl) (by kernel_rfl) (fun _ _ _ h => h) (Or.inl ⟨by rfl, ?_⟩) hHeld ?_
          rotate_left
          focus (intro wq hSw; obtain ⟨s1, s2, _, _, _, _⟩ := hSw; go_simp; try with_reducible rfl)
          (try simp only [Act.put, List.getElem_toArray, List.getElem_cons_succ, List.getElem_cons_zero, List.setIfInBounds_toArray, List.set_cons_zero, List.set_cons_succ])
          refine wpAnyH_take (i := 1) (v := ?_) rfl (by kernel_rfl) (by kernel_rfl) (by kernel_rfl) (fun _ _ _ h => h) (Or.inl ⟨by rfl, ?_⟩) hHeld ?_
          rotate_left
          focus (intro wq hSw; go_simp; try with_reducible rfl)
          (try simp only [Act.put, List.getElem_toArray, List.getElem_cons_succ, List.getElem_cons_zero, List.setIfInBounds_toArray, List.set_cons_zero, List.set_cons_succ])
          refine wpAnyH_ready (rs := [2]) (by kernel_rfl) (by simp) ?_
          refine AllReadyH.cons rfl (fun K hK => ?_) AllReadyH.nil
          go_simp
          refine (HS0.out _ (drewB (Below.refl _ _))).mono ?_
          rintro x w2 ⟨rfl, b2⟩
          obtain ⟨hcw, hfw⟩ := bcellE b2
          refine hK.out _ _ ⟨(hcw _ _ hzl).trans z0, (hcw _ _ hzl).trans z1, cellD_some ((hcw _ _ hn1').trans u0), cellD_some ((hcw _ _ hn1').trans u1), (hfw _ _ hn1').trans v0, (hfw _ _ hn1').trans v1⟩ (fun hHeld => ?_)
          clear hK K
          (try simp only [Act.put, List.getElem_toArray, List.getElem_cons_succ, List.getElem_cons_zero, List.setIfInBounds_toArray, List.set_cons_zero, List.set_cons_succ])
          refine wpAnyH_take (i := 3) (v := ?_) rfl (by kernel_rfl) (by kernel_rfl) (by kernel_rfl) (fun _ _ _ h => h) (Or.inl ⟨by rfl, ?_⟩) hHeld ?_
          rotate_left
          focus (intro wq hSw; go_simp; try with_reducible rfl)
          (try simp only [Act.put, List.getElem_toArray, List.getElem_cons_succ, List.getElem_cons_zero, List.setIfInBounds_toArray, List.set_cons_zero, List.set_cons_succ])
          refine wpAnyH_take (i := 4) (v := undef) rfl (by kernel_rfl) (by kernel_rfl) (by kernel_rfl) (fun _ _ _ h => h) (Or.inr ⟨by rfl, rfl⟩) hHeld ?_
          (try simp only [Act.put, List.getElem_toArray, List.getElem_cons_succ, List.getElem_cons_zero, List.setIfInBounds_toArray, List.set_cons_zero, List.set_cons_succ])
          refine wpAnyH_take (i := 5) (v := undef) rfl (by kernel_rfl) (by kernel_rfl) (by kernel_rfl) (fun _ _ _ h => h) (Or.inr ⟨by rfl, rfl⟩) hHeld ?_
          (try simp only [Act.put, List.getElem_toArray, List.getElem_cons_succ, List.getElem_cons_zero, List.setIfInBounds_toArray, List.set_cons_zero, List.set_cons_succ])
          have HB2 := Lib.hid (HBS1.out.below (drewB' b2))
          refine wpAnyH_take (i := 6) (v := ?_) rfl (by kernel_rfl) (by kernel_rfl) (by kernel_rfl) (fun _ _ _ h => h) (Or.inl ⟨by rfl, ?_⟩) hHeld ?_
          rotate_left
          focus (intro wq hSw; go_simp; try with_reducible rfl)
          (try simp only [Act.put, List.getElem_toArray, List.getElem_cons_succ, List.getElem_cons_zero, List.setIfInBounds_toArray, List.set_cons_zero, List.set_cons_succ])
          have y0' : w2.cell? ⟨w.heap.size + 1, 0, none⟩ = some (.int .i64 0) := (HB2.out.2.1.2 0 (by simp)).1
          have y1' : w2.cell? ⟨w.heap.size + 1, 1, none⟩ = some (.string ByteArray.empty) := (HB2.out.2.1.2 1 (by simp)).1
          refine wpAnyH_ready (rs := [7]) (by kernel_rfl) (by simp) ?_
          refine AllReadyH.cons rfl (fun K hK => ?_) AllReadyH.nil
          obtain ⟨s1, s2, s3, s4, s5, s6⟩ := hHeld
          go_simp
          refine hK.out _ _ ⟨by simp [go_sem, *], by simp [go_sem, *], cellD_some (v := .int .i64 2) (by simp [go_sem, *]), cellD_some (v := .string ⟨#[]⟩) (by simp [go_sem, *]), by simp [*], by simp [*]⟩ (fun hHeld => ?_)
          clear hK K s1 s2 s3 s4 s5 s6
          (try simp only [Act.put, List.getElem_toArray, List.getElem_cons_succ, List.getElem_cons_zero, List.setIfInBounds_toArray, List.set_cons_zero, List.set_cons_succ])
          refine wpAnyH_take (i := 8) (v := ?_) rfl (by kernel_rfl) (by kernel_rfl) (by kernel_rfl) (fun _ _ _ h => h) (Or.inl ⟨by rfl, ?_⟩) hHeld ?_
          rotate_left
          focus (intro wq hSw; go_simp; try with_reducible rfl)
          (try simp only [Act.put, List.getElem_toArray, List.getElem_cons_succ, List.getElem_cons_zero, List.setIfInBounds_toArray, List.set_cons_zero, List.set_cons_succ])
          refine wpAnyH_done (by kernel_rfl) ?_ _
          refine NoPanic.normal ?_
          clear hHeld
          go_wp2_with fail
          refine bodyPost_ret (v := .tuple #[.agg #[.int .i64 2, .string ByteArray.empty], .bool (true)]) (by simp [results, Tryd.results43, go_sem, y0', y1']; rfl) rfl ⟨soK 2, (by rw [HC.out.1, ha]; rfl), HC.out.2, ?_⟩
          refine Below.setCell ?_ (by first | omega | (simp; done) | (simp; omega) | (simp [World.setCell]; omega)) _
          refine Below.setCell ?_ (by first | omega | (simp; done) | (simp; omega) | (simp [World.setCell]; omega)) _
          exact HB2.out.2.2.2
        | false =>
          rw [ha] at HS0
          go_wp2_with fail
          rw [← hW]
          clear hW
          refine wp_region_noPanic ?_
          refine wp_region_held_drew (S := fun w' => w'.cell? ⟨wr.heap.size, 0, none⟩ = some (.int .i64 2) ∧ w'.cell? ⟨wr.heap.size, 1, none⟩ = some (.string ⟨#[]⟩) ∧ w'.cell? ⟨w.heap.size + 1, 0, none⟩ = some (cellD w' ⟨w.heap.size + 1, 0, none⟩) ∧ w'.cell? ⟨w.heap.size + 1, 1, none⟩ = some (cellD w' ⟨w.heap.size + 1, 1, none⟩) ∧ w'.frozen? ⟨w.heap.size + 1, 0, none⟩ = false ∧ w'.frozen? ⟨w.heap.size + 1, 1, none⟩ = false) (by kernel_rfl) ⟨z0, z1, cellD_some u0, cellD_some u1, v0, v1⟩ (fun hHeld => ?_)
          refine wpAnyH_take (i := 0) (v := ?_) rfl (by kernel_rfl) (by kernel_rfl) (by kernel_rfl) (fun _ _ _ h => h) (Or.inl ⟨by rfl, ?_⟩) hHeld ?_
          rotate_left
          focus (intro wq hSw; obtain ⟨s1, s2, _, _, _, _⟩ := hSw; go_simp; try with_reducible rfl)
          (try simp only [Act.put, List.getElem_toArray, List.getElem_cons_succ, List.getElem_cons_zero, List.setIfInBounds_toArray, List.set_cons_zero, List.set_cons_succ])
          refine wpAnyH_take (i := 1) (v := ?_) rfl (by kernel_rfl) (by kernel_rfl) (by kernel_rfl) (fun _ _ _ h => h) (Or.inl ⟨by rfl, ?_⟩) hHeld ?_
          rotate_left
          focus (intro wq hSw; go_simp; try with_reducible rfl)
          (try simp only [Act.put, List.getElem_toArray, List.getElem_cons_succ, List.getElem_cons_zero, List.setIfInBounds_toArray, List.set_cons_zero, List.set_cons_succ])
          refine wpAnyH_ready (rs := [2]) (by kernel_rfl) (by simp) ?_
          refine AllReadyH.cons rfl (fun K hK => ?_) AllReadyH.nil
          go_simp
          refine (HS0.out _ (drewB (Below.refl _ _))).mono ?_
          rintro x w2 ⟨rfl, b2⟩
          obtain ⟨hcw, hfw⟩ := bcellE b2
          refine hK.out _ _ ⟨(hcw _ _ hzl).trans z0, (hcw _ _ hzl).trans z1, cellD_some ((hcw _ _ hn1').trans u0), cellD_some ((hcw _ _ hn1').trans u1), (hfw _ _ hn1').trans v0, (hfw _ _ hn1').trans v1⟩ (fun hHeld => ?_)
          clear hK K
          (try simp only [Act.put, List.getElem_toArray, List.getElem_cons_succ, List.getElem_cons_zero, List.setIfInBounds_toArray, List.set_cons_zero, List.set_cons_succ])
          refine wpAnyH_take (i := 3) (v := ?_) rfl (by kernel_rfl) (by kernel_rfl) (by kernel_rfl) (fun _ _ _ h => h) (Or.inl ⟨by rfl, ?_⟩) hHeld ?_
          rotate_left
          focus (intro wq hSw; go_simp; try with_reducible rfl)
          (try simp only [Act.put, List.getElem_toArray, List.getElem_cons_succ, List.getElem_cons_zero, List.setIfInBounds_toArray, List.set_cons_zero, List.set_cons_succ])
          refine wpAnyH_take (i := 4) (v := ?_) rfl (by kernel_rfl) (by kernel_rfl) (by kernel_rfl) (fun _ _ _ h => h) (Or.inl ⟨by rfl, ?_⟩) hHeld ?_
          rotate_left
          focus (intro wq hSw; go_simp; try with_reducible rfl)
          (try simp only [Act.put, List.getElem_toArray, List.getElem_cons_succ, List.getElem_cons_zero, List.setIfInBounds_toArray, List.set_cons_zero, List.set_cons_succ])
          refine wpAnyH_ready (rs := [5]) (by kernel_rfl) (by simp) ?_
          refine AllReadyH.cons rfl (fun K hK => ?_) AllReadyH.nil
          go_simp
          refine (HS1.out _ (drewB' b2)).mono ?_
          rintro x w3 ⟨rfl, b3⟩
          obtain ⟨hcw3, hfw3⟩ := bcellE b3
          have hz2 := Nat.lt_of_lt_of_le hzl (drewB' b2).size
          have hz3 := Nat.lt_of_lt_of_le hn1' (drewB' b2).size
          refine hK.out _ _ ⟨(hcw3 _ _ hz2).trans ((hcw _ _ hzl).trans z0), (hcw3 _ _ hz2).trans ((hcw _ _ hzl).trans z1), cellD_some ((hcw3 _ _ hz3).trans ((hcw _ _ hn1').trans u0)), cellD_some ((hcw3 _ _ hz3).trans ((hcw _ _ hn1').trans u1)), (hfw3 _ _ hz3).trans ((hfw _ _ hn1').trans v0), (hfw3 _ _ hz3).trans ((hfw _ _ hn1').trans v1)⟩ (fun hHeld => ?_)
          clear hK K
          (try simp only [Act.put, List.getElem_toArray, List.getElem_cons_succ, List.getElem_cons_zero, List.setIfInBounds_toArray, List.set_cons_zero, List.set_cons_succ])
          have HB2 := Lib.hid ((HBS1.out.below (drewB' b2)).below b3)
          refine wpAnyH_take (i := 6) (v := ?_) rfl (by kernel_rfl) (by kernel_rfl) (by kernel_rfl) (fun _ _ _ h => h) (Or.inl ⟨by rfl, ?_⟩) hHeld ?_
          rotate_left
          focus (intro wq hSw; go_simp; try with_reducible rfl)
          (try simp only [Act.put, List.getElem_toArray, List.getElem_cons_succ, List.getElem_cons_zero, List.setIfInBounds_toArray, List.set_cons_zero, List.set_cons_succ])
          have y0' : w3.cell? ⟨w.heap.size + 1, 0, none⟩ = some (.int .i64 0) := (HB2.out.2.1.2 0 (by simp)).1
          have y1' : w3.cell? ⟨w.heap.size + 1, 1, none⟩ = some (.string ByteArray.empty) := (HB2.out.2.1.2 1 (by simp)).1
          refine wpAnyH_ready (rs := [7]) (by kernel_rfl) (by simp) ?_
          refine AllReadyH.cons rfl (fun K hK => ?_) AllReadyH.nil
          obtain ⟨s1, s2, s3, s4, s5, s6⟩ := hHeld
          go_simp
          refine hK.out _ _ ⟨by simp [go_sem, *], by simp [go_sem, *], cellD_some (v := .int .i64 2) (by simp [go_sem, *]), cellD_some (v := .string ⟨#[]⟩) (by simp [go_sem, *]), by simp [*], by simp [*]⟩ (fun hHeld => ?_)
          clear hK K s1 s2 s3 s4 s5 s6
          (try simp only [Act.put, List.getElem_toArray, List.getElem_cons_succ, List.getElem_cons_zero, List.setIfInBounds_toArray, List.set_cons_zero, List.set_cons_succ])
          refine wpAnyH_take (i := 8) (v := ?_) rfl (by kernel_rfl) (by kernel_rfl) (by kernel_rfl) (fun _ _ _ h => h) (Or.inl ⟨by rfl, ?_⟩) hHeld ?_
          rotate_left
          focus (intro wq hSw; go_simp; try with_reducible rfl)
          (try simp only [Act.put, List.getElem_toArray, List.getElem_cons_succ, List.getElem_cons_zero, List.setIfInBounds_toArray, List.set_cons_zero, List.set_cons_succ])
          refine wpAnyH_done (by kernel_rfl) ?_ _
          refine NoPanic.normal ?_
          clear hHeld
          go_wp2_with fail
          refine bodyPost_ret (v := .tuple #[.agg #[.int .i64 2, .string ByteArray.empty], .bool (allS xs 1)]) (by simp [results, Tryd.results43, go_sem, y0', y1']; rfl) rfl ⟨soK 2, (by rw [HC.out.1, ha]; rfl), HC.out.2, ?_⟩
          refine Below.setCell ?_ (by first | omega | (simp; done) | (simp; omega) | (simp [World.setCell]; omega)) _
          refine Below.setCell ?_ (by first | omega | (simp; done) | (simp; omega) | (simp [World.setCell]; omega)) _
          exact HB2.out.2.2.2
      | false =>
      cases h13 : (e.kind == 13) with
      | true =>
        have HS0 := Lib.hid (fun w' (hb : Below W1.heap.size W1 w') => specAllS ka kc xs 0 w' (HSL1.out.kept goodSo (Kept.below hb)))
        have HS1 := Lib.hid (fun w' (hb : Below W1.heap.size W1 w') => specAllS ka kc xs 1 w' (HSL1.out.kept goodSo (Kept.below hb)))
        rw [hxl] at HS0 HS1
        have HC : Hid ((srtE (colF cols) ls e).isSome = (allS xs 0 || allS xs 1) ∧ ∀ t, srtE (colF cols) ls e = some t → soK 2 = t) := by
          have q : srtE (colF cols) ls e = if (allS xs 0 || allS xs 1) = true then some (soK 2) else none := by rw [HEN.out]; unfold nodeS; simp only [h0, h1, h2, h5, h3, h4, h7, h6, h8, h9, h10, h11, h12, h13, Bool.false_eq_true, if_false, false_or, or_false, true_or, or_true, if_true]
          rw [q]
          cases (allS xs 0 || allS xs 1) with
          | true => exact ⟨rfl, fun t ht => by simpa using ht⟩
          | false => exact ⟨rfl, fun t ht => by cases ht⟩
        cases ha : allS xs 0 with
        | true =>
          rw [ha] at HS0
          go_wp2_with fail
          rw [← hW]
          clear hW
          refine wp_region_noPanic ?_
          refine wp_region_held_drew (S := fun w' => w'.cell? ⟨wr.heap.size, 0, none⟩ = some (.int .i64 2) ∧ w'.cell? ⟨wr.heap.size, 1, none⟩ = some (.string ⟨#[]⟩) ∧ w'.cell? ⟨w.heap.size + 1, 0, none⟩ = some (cellD w' ⟨w.heap.size + 1, 0, none⟩) ∧ w'.cell? ⟨w.heap.size + 1, 1, none⟩ = some (cellD w' ⟨w.heap.size + 1, 1, none⟩) ∧ w'.frozen? ⟨w.heap.size + 1, 0, none⟩ = false ∧ w'.frozen? ⟨w.heap.size + 1, 1, none⟩ = false) (by kernel_rfl) ⟨z0, z1, cellD_some u0, cellD_some u1, v0, v1⟩ (fun hHeld => ?_)
          refine wpAnyH_take (i := 0) (v := ?_) rfl (by kernel_rfl) (by kernel_rfl) (by kernel_rfl) (fun _ _ _ h => h) (Or.inl ⟨by rfl, ?_⟩) hHeld ?_
          rotate_left
          focus (intro wq hSw; obtain ⟨s1, s2, _, _, _, _⟩ := hSw; go_simp; try with_reducible rfl)
          (try simp only [Act.put, List.getElem_toArray, List.getElem_cons_succ, List.getElem_cons_zero, List.setIfInBounds_toArray, List.set_cons_zero, List.set_cons_succ])
          refine wpAnyH_take (i := 1) (v := ?_) rfl (by kernel_rfl) (by kernel_rfl) (by kernel_rfl) (fun _ _ _ h => h) (Or.inl ⟨by rfl, ?_⟩) hHeld ?_
          rotate_left
          focus (intro wq hSw; go_simp; try with_reducible rfl)
          (try simp only [Act.put, List.getElem_toArray, List.getElem_cons_succ, List.getElem_cons_zero, List.setIfInBounds_toArray, List.set_cons_zero, List.set_cons_succ])
          refine wpAnyH_ready (rs := [2]) (by kernel_rfl) (by simp) ?_
          refine AllReadyH.cons rfl (fun K hK => ?_) AllReadyH.nil
          go_simp
          refine (HS0.out _ (drewB (Below.refl _ _))).mono ?_
          rintro x w2 ⟨rfl, b2⟩
          obtain ⟨hcw, hfw⟩ := bcellE b2
          refine hK.out _ _ ⟨(hcw _ _ hzl).trans z0, (hcw _ _ hzl).trans z1, cellD_some ((hcw _ _ hn1').trans u0), cellD_some ((hcw _ _ hn1').trans u1), (hfw _ _ hn1').trans v0, (hfw _ _ hn1').trans v1⟩ (fun hHeld => ?_)
          clear hK K
          (try simp only [Act.put, List.getElem_toArray, List.getElem_cons_succ, List.getElem_cons_zero, List.setIfInBounds_toArray, List.set_cons_zero, List.set_cons_succ])
          refine wpAnyH_take (i := 3) (v := ?_) rfl (by kernel_rfl) (by kernel_rfl) (by kernel_rfl) (fun _ _ _ h => h) (Or.inl ⟨by rfl, ?_⟩) hHeld ?_
          rotate_left
          focus (intro wq hSw; go_simp; try with_reducible rfl)
          (try simp only [Act.put, List.getElem_toArray, List.getElem_cons_succ, List.getElem_cons_zero, List.setIfInBounds_toArray, List.set_cons_zero, List.set_cons_succ])
          refine wpAnyH_take (i := 4) (v := undef) rfl (by kernel_rfl) (by kernel_rfl) (by kernel_rfl) (fun _ _ _ h => h) (Or.inr ⟨by rfl, rfl⟩) hHeld ?_
          (try simp only [Act.put, List.getElem_toArray, List.getElem_cons_succ, List.getElem_cons_zero, List.setIfInBounds_toArray, List.set_cons_zero, List.set_cons_succ])
          refine wpAnyH_take (i := 5) (v := undef) rfl (by kernel_rfl) (by kernel_rfl) (by kernel_rfl) (fun _ _ _ h => h) (Or.inr ⟨by rfl, rfl⟩) hHeld ?_
          (try simp only [Act.put, List.getElem_toArray, List.getElem_cons_succ, List.getElem_cons_zero, List.setIfInBounds_toArray, List.set_cons_zero, List.set_cons_succ])
          have HB2 := Lib.hid (HBS1.out.below (drewB' b2))
          refine wpAnyH_take (i := 6) (v := ?_) rfl (by kernel_rfl) (by kernel_rfl) (by kernel_rfl) (fun _ _ _ h => h) (Or.inl ⟨by rfl, ?_⟩) hHeld ?_
          rotate_left
          focus (intro wq hSw; go_simp; try with_reducible rfl)
          (try simp only [Act.put, List.getElem_toArray, List.getElem_cons_succ, List.getElem_cons_zero, List.setIfInBounds_toArray, List.set_cons_zero, List.set_cons_succ])
          have y0' : w2.cell? ⟨w.heap.size + 1, 0, none⟩ = some (.int .i64 0) := (HB2.out.2.1.2 0 (by simp)).1
          have y1' : w2.cell? ⟨w.heap.size + 1, 1, none⟩ = some (.string ByteArray.empty) := (HB2.out.2.1.2 1 (by simp)).1
          refine wpAnyH_ready (rs := [7]) (by kernel_rfl) (by simp) ?_
          refine AllReadyH.cons rfl (fun K hK => ?_) AllReadyH.nil
          obtain ⟨s1, s2, s3, s4, s5, s6⟩ := hHeld
          go_simp
          refine hK.out _ _ ⟨by simp [go_sem, *], by simp [go_sem, *], cellD_some (v := .int .i64 2) (by simp [go_sem, *]), cellD_some (v := .string ⟨#[]⟩) (by simp [go_sem, *]), by simp [*], by simp [*]⟩ (fun hHeld => ?_)
          clear hK K s1 s2 s3 s4 s5 s6
          (try simp only [Act.put, List.getElem_toArray, List.getElem_cons_succ, List.getElem_cons_zero, List.setIfInBounds_toArray, List.set_cons_zero, List.set_cons_succ])
          refine wpAnyH_take (i := 8) (v := ?_) rfl (by kernel_rfl) (by kernel_rfl) (by kernel_rfl) (fun _ _ _ h => h) (Or.inl ⟨by rfl, ?_⟩) hHeld ?_
          rotate_left
          focus (intro wq hSw; go_simp; try with_reducible rfl)
          (try simp only [Act.put, List.getElem_toArray, List.getElem_cons_succ, List.getElem_cons_zero, List.setIfInBounds_toArray, List.set_cons_zero, List.set_cons_succ])
          refine wpAnyH_done (by kernel_rfl) ?_ _
          refine NoPanic.normal ?_
          clear hHeld
          go_wp2_with fail
          refine bodyPost_ret (v := .tuple #[.agg #[.int .i64 2, .string ByteArray.empty], .bool (true)]) (by simp [results, Tryd.results43, go_sem, y0', y1']; rfl) rfl ⟨soK 2, (by rw [HC.out.1, ha]; rfl), HC.out.2, ?_⟩
          refine Below.setCell ?_ (by first | omega | (simp; done) | (simp; omega) | (simp [World.setCell]; omega)) _
          refine Below.setCell ?_ (by first | omega | (simp; done) | (simp; omega) | (simp [World.setCell]; omega)) _
          exact HB2.out.2.2.2
        | false =>
          rw [ha] at HS0
          go_wp2_with fail
          rw [← hW]
          clear hW
          refine wp_region_noPanic ?_
          refine wp_region_held_drew (S := fun w' => w'.cell? ⟨wr.heap.size, 0, none⟩ = some (.int .i64 2) ∧ w'.cell? ⟨wr.heap.size, 1, none⟩ = some (.string ⟨#[]⟩) ∧ w'.cell? ⟨w.heap.size + 1, 0, none⟩ = some (cellD w' ⟨w.heap.size + 1, 0, none⟩) ∧ w'.cell? ⟨w.heap.size + 1, 1, none⟩ = some (cellD w' ⟨w.heap.size + 1, 1, none⟩) ∧ w'.frozen? ⟨w.heap.size + 1, 0, none⟩ = false ∧ w'.frozen? ⟨w.heap.size + 1, 1, none⟩ = false) (by kernel_rfl) ⟨z0, z1, cellD_some u0, cellD_some u1, v0, v1⟩ (fun hHeld => ?_)
          refine wpAnyH_take (i := 0) (v := ?_) rfl (by kernel_rfl) (by kernel_rfl) (by kernel_rfl) (fun _ _ _ h => h) (Or.inl ⟨by rfl, ?_⟩) hHeld ?_
          rotate_left
          focus (intro wq hSw; obtain ⟨s1, s2, _, _, _, _⟩ := hSw; go_simp; try with_reducible rfl)
          (try simp only [Act.put, List.getElem_toArray, List.getElem_cons_succ, List.getElem_cons_zero, List.setIfInBounds_toArray, List.set_cons_zero, List.set_cons_succ])
          refine wpAnyH_take (i := 1) (v := ?_) rfl (by kernel_rfl) (by kernel_rfl) (by kernel_rfl) (fun _ _ _ h => h) (Or.inl ⟨by rfl, ?_⟩) hHeld ?_
          rotate_left
          focus (intro wq hSw; go_simp; try with_reducible rfl)
          (try simp only [Act.put, List.getElem_toArray, List.getElem_cons_succ, List.getElem_cons_zero, List.setIfInBounds_toArray, List.set_cons_zero, List.set_cons_succ])
          refine wpAnyH_ready (rs := [2]) (by kernel_rfl) (by simp) ?_
          refine AllReadyH.cons rfl (fun K hK => ?_) AllReadyH.nil
          go_simp
          refine (HS0.out _ (drewB (Below.refl _ _))).mono ?_
          rintro x w2 ⟨rfl, b2⟩
          obtain ⟨hcw, hfw⟩ := bcellE b2
          refine hK.out _ _ ⟨(hcw _ _ hzl).trans z0, (hcw _ _ hzl).trans z1, cellD_some ((hcw _ _ hn1').trans u0), cellD_some ((hcw _ _ hn1').trans u1), (hfw _ _ hn1').trans v0, (hfw _ _ hn1').trans v1⟩ (fun hHeld => ?_)
          clear hK K
          (try simp only [Act.put, List.getElem_toArray, List.getElem_cons_succ, List.getElem_cons_zero, List.setIfInBounds_toArray, List.set_cons_zero, List.set_cons_succ])
          refine wpAnyH_take (i := 3) (v := ?_) rfl (by kernel_rfl) (by kernel_rfl) (by kernel_rfl) (fun _ _ _ h => h) (Or.inl ⟨by rfl, ?_⟩) hHeld ?_
          rotate_left
          focus (intro wq hSw; go_simp; try with_reducible rfl)
          (try simp only [Act.put, List.getElem_toArray, List.getElem_cons_succ, List.getElem_cons_zero, List.setIfInBounds_toArray, List.set_cons_zero, List.set_cons_succ])
          refine wpAnyH_take (i := 4) (v := ?_) rfl (by kernel_rfl) (by kernel_rfl) (by kernel_rfl) (fun _ _ _ h => h) (Or.inl ⟨by rfl, ?_⟩) hHeld ?_
          rotate_left
          focus (intro wq hSw; go_simp; try with_reducible rfl)
          (try simp only [Act.put, List.getElem_toArray, List.getElem_cons_succ, List.getElem_cons_zero, List.setIfInBounds_toArray, List.set_cons_zero, List.set_cons_succ])
          refine wpAnyH_ready (rs := [5]) (by kernel_rfl) (by simp) ?_
          refine AllReadyH.cons rfl (fun K hK => ?_) AllReadyH.nil
          go_simp
          refine (HS1.out _ (drewB' b2)).mono ?_
          rintro x w3 ⟨rfl, b3⟩
          obtain ⟨hcw3, hfw3⟩ := bcellE b3
          have hz2 := Nat.lt_of_lt_of_le hzl (drewB' b2).size
          have hz3 := Nat.lt_of_lt_of_le hn1' (drewB' b2).size
          refine hK.out _ _ ⟨(hcw3 _ _ hz2).trans ((hcw _ _ hzl).trans z0), (hcw3 _ _ hz2).trans ((hcw _ _ hzl).trans z1), cellD_some ((hcw3 _ _ hz3).trans ((hcw _ _ hn1').trans u0)), cellD_some ((hcw3 _ _ hz3).trans ((hcw _ _ hn1').trans u1)), (hfw3 _ _ hz3).trans ((hfw _ _ hn1').trans v0), (hfw3 _ _ hz3).trans ((hfw _ _ hn1').trans v1)⟩ (fun hHeld => ?_)
          clear hK K
          (try simp only [Act.put, List.getElem_toArray, List.getElem_cons_succ, List.getElem_cons_zero, List.setIfInBounds_toArray, List.set_cons_zero, List.set_cons_succ])
          have HB2 := Lib.hid ((HBS1.out.below (drewB' b2)).below b3)
          refine wpAnyH_take (i := 6) (v := ?_) rfl (by kernel_rfl) (by kernel_rfl) (by kernel_rfl) (fun _ _ _ h => h) (Or.inl ⟨by rfl, ?_⟩) hHeld ?_
          rotate_left
          focus (intro wq hSw; go_simp; try with_reducible rfl)
          (try simp only [Act.put, List.getElem_toArray, List.getElem_cons_succ, List.getElem_cons_zero, List.setIfInBounds_toArray, List.set_cons_zero, List.set_cons_succ])
          have y0' : w3.cell? ⟨w.heap.size + 1, 0, none⟩ = some (.int .i64 0) := (HB2.out.2.1.2 0 (by simp)).1
          have y1' : w3.cell? ⟨w.heap.size + 1, 1, none⟩ = some (.string ByteArray.empty) := (HB2.out.2.1.2 1 (by simp)).1
          refine wpAnyH_ready (rs := [7]) (by kernel_rfl) (by simp) ?_
          refine AllReadyH.cons rfl (fun K hK => ?_) AllReadyH.nil
          obtain ⟨s1, s2, s3, s4, s5, s6⟩ := hHeld
          go_simp
          refine hK.out _ _ ⟨by simp [go_sem, *], by simp [go_sem, *], cellD_some (v := .int .i64 2) (by simp [go_sem, *]), cellD_some (v := .string ⟨#[]⟩) (by simp [go_sem, *]), by simp [*], by simp [*]⟩ (fun hHeld => ?_)
          clear hK K s1 s2 s3 s4 s5 s6
          (try simp only [Act.put, List.getElem_toArray, List.getElem_cons_succ, List.getElem_cons_zero, List.setIfInBounds_toArray, List.set_cons_zero, List.set_cons_succ])
          refine wpAnyH_take (i := 8) (v := ?_) rfl (by kernel_rfl) (by kernel_rfl) (by kernel_rfl) (fun _ _ _ h => h) (Or.inl ⟨by rfl, ?_⟩) hHeld ?_
          rotate_left
          focus (intro wq hSw; go_simp; try with_reducible rfl)
          (try simp only [Act.put, List.getElem_toArray, List.getElem_cons_succ, List.getElem_cons_zero, List.setIfInBounds_toArray, List.set_cons_zero, List.set_cons_succ])
          refine wpAnyH_done (by kernel_rfl) ?_ _
          refine NoPanic.normal ?_
          clear hHeld
          go_wp2_with fail
          refine bodyPost_ret (v := .tuple #[.agg #[.int .i64 2, .string ByteArray.empty], .bool (allS xs 1)]) (by simp [results, Tryd.results43, go_sem, y0', y1']; rfl) rfl ⟨soK 2, (by rw [HC.out.1, ha]; rfl), HC.out.2, ?_⟩
          refine Below.setCell ?_ (by first | omega | (simp; done) | (simp; omega) | (simp [World.setCell]; omega)) _
          refine Below.setCell ?_ (by first | omega | (simp; done) | (simp; omega) | (simp [World.setCell]; omega)) _
          exact HB2.out.2.2.2
      | false =>
      cases h14 : (e.kind == 14) with
      | true =>
        have HS0 := Lib.hid (fun w' (hb : Below W1.heap.size W1 w') => specAllS ka kc xs 0 w' (HSL1.out.kept goodSo (Kept.below hb)))
        have HS1 := Lib.hid (fun w' (hb : Below W1.heap.size W1 w') => specAllS ka kc xs 1 w' (HSL1.out.kept goodSo (Kept.below hb)))
        rw [hxl] at HS0 HS1
        have HC : Hid ((srtE (colF cols) ls e).isSome = (allS xs 0 || allS xs 1) ∧ ∀ t, srtE (colF cols) ls e = some t → soK 2 = t) := by
          have q : srtE (colF cols) ls e = if (allS xs 0 || allS xs 1) = true then some (soK 2) else none := by rw [HEN.out]; unfold nodeS; simp only [h0, h1, h2, h5, h3, h4, h7, h6, h8, h9, h10, h11, h12, h13, h14, Bool.false_eq_true, if_false, false_or, or_false, true_or, or_true, if_true]
          rw [q]
          cases (allS xs 0 || allS xs 1) with
          | true => exact ⟨rfl, fun t ht => by simpa using ht⟩
          | false => exact ⟨rfl, fun t ht => by cases ht⟩
        cases ha : allS xs 0 with
        | true =>
          rw [ha] at HS0
          go_wp2_with fail
          rw [← hW]
          clear hW
          refine wp_region_noPanic ?_
          refine wp_region_held_drew (S := fun w' => w'.cell? ⟨wr.heap.size, 0, none⟩ = some (.int .i64 2) ∧ w'.cell? ⟨wr.heap.size, 1, none⟩ = some (.string ⟨#[]⟩) ∧ w'.cell? ⟨w.heap.size + 1, 0, none⟩ = some (cellD w' ⟨w.heap.size + 1, 0, none⟩) ∧ w'.cell? ⟨w.heap.size + 1, 1, none⟩ = some (cellD w' ⟨w.heap.size + 1, 1, none⟩) ∧ w'.frozen? ⟨w.heap.size + 1, 0, none⟩ = false ∧ w'.frozen? ⟨w.heap.size + 1, 1, none⟩ = false) (by kernel_rfl) ⟨z0, z1, cellD_some u0, cellD_some u1, v0, v1⟩ (fun hHeld => ?_)
          refine wpAnyH_take (i := 0) (v := ?_) rfl (by kernel_rfl) (by kernel_rfl) (by kernel_rfl) (fun _ _ _ h => h) (Or.inl ⟨by rfl, ?_⟩) hHeld ?_
          rotate_left
          focus (intro wq hSw; obtain ⟨s1, s2, _, _, _, _⟩ := hSw; go_simp; try with_reducible rfl)
          (try simp only [Act.put, List.getElem_toArray, List.getElem_cons_succ, List.getElem_cons_zero, List.setIfInBounds_toArray, List.set_cons_zero, List.set_cons_succ])
          refine wpAnyH_take (i := 1) (v := ?_) rfl (by kernel_rfl) (by kernel_rfl) (by kernel_rfl) (fun _ _ _ h => h) (Or.inl ⟨by rfl, ?_⟩) hHeld ?_
          rotate_left
          focus (intro wq hSw; go_simp; try with_reducible rfl)
          (try simp only [Act.put, List.getElem_toArray, List.getElem_cons_succ, List.getElem_cons_zero, List.setIfInBounds_toArray, List.set_cons_zero, List.set_cons_succ])
          refine wpAnyH_ready (rs := [2]) (by kernel_rfl) (by simp) ?_
          refine AllReadyH.cons rfl (fun K hK => ?_) AllReadyH.nil
          go_simp
          refine (HS0.out _ (drewB (Below.refl _ _))).mono ?_
          rintro x w2 ⟨rfl, b2⟩
          obtain ⟨hcw, hfw⟩ := bcellE b2
          refine hK.out _ _ ⟨(hcw _ _ hzl).trans z0, (hcw _ _ hzl).trans z1, cellD_some ((hcw _ _ hn1').trans u0), cellD_some ((hcw _ _ hn1').trans u1), (hfw _ _ hn1').trans v0, (hfw _ _ hn1').trans v1⟩ (fun hHeld => ?_)
          clear hK K
          (try simp only [Act.put, List.getElem_toArray, List.getElem_cons_succ, List.getElem_cons_zero, List.setIfInBounds_toArray, List.set_cons_zero, List.set_cons_succ])
          refine wpAnyH_take (i := 3) (v := ?_) rfl (by kernel_rfl) (by kernel_rfl) (by kernel_rfl) (fun _ _ _ h => h) (Or.inl ⟨by rfl, ?_⟩) hHeld ?_
          rotate_left
          focus (intro wq hSw; go_simp; try with_reducible rfl)
          (try simp only [Act.put, List.getElem_toArray, List.getElem_cons_succ, List.getElem_cons_zero, List.setIfInBounds_toArray, List.set_cons_zero, List.set_cons_succ])
          refine wpAnyH_take (i := 4) (v := undef) rfl (by kernel_rfl) (by kernel_rfl) (by kernel_rfl) (fun _ _ _ h => h) (Or.inr ⟨by rfl, rfl⟩) hHeld ?_
          (try simp only [Act.put, List.getElem_toArray, List.getElem_cons_succ, List.getElem_cons_zero, List.setIfInBounds_toArray, List.set_cons_zero, List.set_cons_succ])
          refine wpAnyH_take (i := 5) (v := undef) rfl (by kernel_rfl) (by kernel_rfl) (by kernel_rfl) (fun _ _ _ h => h) (Or.inr ⟨by rfl, rfl⟩) hHeld ?_
          (try simp only [Act.put, List.getElem_toArray, List.getElem_cons_succ, List.getElem_cons_zero, List.setIfInBounds_toArray, List.set_cons_zero, List.set_cons_succ])
          have HB2 := Lib.hid (HBS1.out.below (drewB' b2))
          refine wpAnyH_take (i := 6) (v := ?_) rfl (by kernel_rfl) (by kernel_rfl) (by kernel_rfl) (fun _ _ _ h => h) (Or.inl ⟨by rfl, ?_⟩) hHeld ?_
          rotate_left
          focus (intro wq hSw; go_simp; try with_reducible rfl)
          (try simp only [Act.put, List.getElem_toArray, List.getElem_cons_succ, List.getElem_cons_zero, List.setIfInBounds_toArray, List.set_cons_zero, List.set_cons_succ])
          have y0' : w2.cell? ⟨w.heap.size + 1, 0, none⟩ = some (.int .i64 0) := (HB2.out.2.1.2 0 (by simp)).1
          have y1' : w2.cell? ⟨w.heap.size + 1, 1, none⟩ = some (.string ByteArray.empty) := (HB2.out.2.1.2 1 (by simp)).1
          refine wpAnyH_ready (rs := [7]) (by kernel_rfl) (by simp) ?_
          refine AllReadyH.cons rfl (fun K hK => ?_) AllReadyH.nil
          obtain ⟨s1, s2, s3, s4, s5, s6⟩ := hHeld
          go_simp
          refine hK.out _ _ ⟨by simp [go_sem, *], by simp [go_sem, *], cellD_some (v := .int .i64 2) (by simp [go_sem, *]), cellD_some (v := .string ⟨#[]⟩) (by simp [go_sem, *]), by simp [*], by simp [*]⟩ (fun hHeld => ?_)
          clear hK K s1 s2 s3 s4 s5 s6
          (try simp only [Act.put, List.getElem_toArray, List.getElem_cons_succ, List.getElem_cons_zero, List.setIfInBounds_toArray, List.set_cons_zero, List.set_cons_succ])
          refine wpAnyH_take (i := 8) (v := ?_) rfl (by kernel_rfl) (by kernel_rfl) (by kernel_rfl) (fun _ _ _ h => h) (Or.inl ⟨by rfl, ?_⟩) hHeld ?_
          rotate_left
          focus (intro wq hSw; go_simp; try with_reducible rfl)
          (try simp only [Act.put, List.getElem_toArray, List.getElem_cons_succ, List.getElem_cons_zero, List.setIfInBounds_toArray, List.set_cons_zero, List.set_cons_succ])
          refine wpAnyH_done (by kernel_rfl) ?_ _
          refine NoPanic.normal ?_
          clear hHeld
          go_wp2_with fail
          refine bodyPost_ret (v := .tuple #[.agg #[.int .i64 2, .string ByteArray.empty], .bool (true)]) (by simp [results, Tryd.results43, go_sem, y0', y1']; rfl) rfl ⟨soK 2, (by rw [HC.out.1, ha]; rfl), HC.out.2, ?_⟩
          refine Below.setCell ?_ (by first | omega | (simp; done) | (simp; omega) | (simp [World.setCell]; omega)) _
          refine Below.setCell ?_ (by first | omega | (simp; done) | (simp; omega) | (simp [World.setCell]; omega)) _
          exact HB2.out.2.2.2
        | false =>
          rw [ha] at HS0
          go_wp2_with fail
          rw [← hW]
          clear hW
          refine wp_region_noPanic ?_
          refine wp_region_held_drew (S := fun w' => w'.cell? ⟨wr.heap.size, 0, none⟩ = some (.int .i64 2) ∧ w'.cell? ⟨wr.heap.size, 1, none⟩ = some (.string ⟨#[]⟩) ∧ w'.cell? ⟨w.heap.size + 1, 0, none⟩ = some (cellD w' ⟨w.heap.size + 1, 0, none⟩) ∧ w'.cell? ⟨w.heap.size + 1, 1, none⟩ = some (cellD w' ⟨w.heap.size + 1, 1, none⟩) ∧ w'.frozen? ⟨w.heap.size + 1, 0, none⟩ = false ∧ w'.frozen? ⟨w.heap.size + 1, 1, none⟩ = false) (by kernel_rfl) ⟨z0, z1, cellD_some u0, cellD_some u1, v0, v1⟩ (fun hHeld => ?_)
          refine wpAnyH_take (i := 0) (v := ?_) rfl (by kernel_rfl) (by kernel_rfl) (by kernel_rfl) (fun _ _ _ h => h) (Or.inl ⟨by rfl, ?_⟩) hHeld ?_
          rotate_left
          focus (intro wq hSw; obtain ⟨s1, s2, _, _, _, _⟩ := hSw; go_simp; try with_reducible rfl)
          (try simp only [Act.put, List.getElem_toArray, List.getElem_cons_succ, List.getElem_cons_zero, List.setIfInBounds_toArray, List.set_cons_zero, List.set_cons_succ])
          refine wpAnyH_take (i := 1) (v := ?_) rfl (by kernel_rfl) (by kernel_rfl) (by kernel_rfl) (fun _ _ _ h => h) (Or.inl ⟨by rfl, ?_⟩) hHeld ?_
          rotate_left
          focus (intro wq hSw; go_simp; try with_reducible rfl)
          (try simp only [Act.put, List.getElem_toArray, List.getElem_cons_succ, List.getElem_cons_zero, List.setIfInBounds_toArray, List.set_cons_zero, List.set_cons_succ])
          refine wpAnyH_ready (rs := [2]) (by kernel_rfl) (by simp) ?_
          refine AllReadyH.cons rfl (fun K hK => ?_) AllReadyH.nil
          go_simp
          refine (HS0.out _ (drewB (Below.refl _ _))).mono ?_
          rintro x w2 ⟨rfl, b2⟩
          obtain ⟨hcw, hfw⟩ := bcellE b2
          refine hK.out _ _ ⟨(hcw _ _ hzl).trans z0, (hcw _ _ hzl).trans z1, cellD_some ((hcw _ _ hn1').trans u0), cellD_some ((hcw _ _ hn1').trans u1), (hfw _ _ hn1').trans v0, (hfw _ _ hn1').trans v1⟩ (fun hHeld => ?_)
          clear hK K
          (try simp only [Act.put, List.getElem_toArray, List.getElem_cons_succ, List.getElem_cons_zero, List.setIfInBounds_toArray, List.set_cons_zero, List.set_cons_succ])
          refine wpAnyH_take (i := 3) (v := ?_) rfl (by kernel_rfl) (by kernel_rfl) (by kernel_rfl) (fun _ _ _ h => h) (Or.inl ⟨by rfl, ?_⟩) hHeld ?_
          rotate_left
          focus (intro wq hSw; go_simp; try with_reducible rfl)
          (try simp only [Act.put, List.getElem_toArray, List.getElem_cons_succ, List.getElem_cons_zero, List.setIfInBounds_toArray, List.set_cons_zero, List.set_cons_succ])
          refine wpAnyH_take (i := 4) (v := ?_) rfl (by kernel_rfl) (by kernel_rfl) (by kernel_rfl) (fun _ _ _ h => h) (Or.inl ⟨by rfl, ?_⟩) hHeld ?_
          rotate_left
          focus (intro wq hSw; go_simp; try with_reducible rfl)
          (try simp only [Act.put, List.getElem_toArray, List.getElem_cons_succ, List.getElem_cons_zero, List.setIfInBounds_toArray, List.set_cons_zero, List.set_cons_succ])
          refine wpAnyH_ready (rs := [5]) (by kernel_rfl) (by simp) ?_
          refine AllReadyH.cons rfl (fun K hK => ?_) AllReadyH.nil
          go_simp
          refine (HS1.out _ (drewB' b2)).mono ?_
          rintro x w3 ⟨rfl, b3⟩
          obtain ⟨hcw3, hfw3⟩ := bcellE b3
          have hz2 := Nat.lt_of_lt_of_le hzl (drewB' b2).size
          have hz3 := Nat.lt_of_lt_of_le hn1' (drewB' b2).size
          refine hK.out _ _ ⟨(hcw3 _ _ hz2).trans ((hcw _ _ hzl).trans z0), (hcw3 _ _ hz2).trans ((hcw _ _ hzl).trans z1), cellD_some ((hcw3 _ _ hz3).trans ((hcw _ _ hn1').trans u0)), cellD_some ((hcw3 _ _ hz3).trans ((hcw _ _ hn1').trans u1)), (hfw3 _ _ hz3).trans ((hfw _ _ hn1').trans v0), (hfw3 _ _ hz3).trans ((hfw _ _ hn1').trans v1)⟩ (fun hHeld => ?_)
          clear hK K
          (try simp only [Act.put, List.getElem_toArray, List.getElem_cons_succ, List.getElem_cons_zero, List.setIfInBounds_toArray, List.set_cons_zero, List.set_cons_succ])
          have HB2 := Lib.hid ((HBS1.out.below (drewB' b2)).below b3)
          refine wpAnyH_take (i := 6) (v := ?_) rfl (by kernel_rfl) (by kernel_rfl) (by kernel_rfl) (fun _ _ _ h => h) (Or.inl ⟨by rfl, ?_⟩) hHeld ?_
          rotate_left
          focus (intro wq hSw; go_simp; try with_reducible rfl)
          (try simp only [Act.put, List.getElem_toArray, List.getElem_cons_succ, List.getElem_cons_zero, List.setIfInBounds_toArray, List.set_cons_zero, List.set_cons_succ])
          have y0' : w3.cell? ⟨w.heap.size + 1, 0, none⟩ = some (.int .i64 0) := (HB2.out.2.1.2 0 (by simp)).1
          have y1' : w3.cell? ⟨w.heap.size + 1, 1, none⟩ = some (.string ByteArray.empty) := (HB2.out.2.1.2 1 (by simp)).1
          refine wpAnyH_ready (rs := [7]) (by kernel_rfl) (by simp) ?_
          refine AllReadyH.cons rfl (fun K hK => ?_) AllReadyH.nil
          obtain ⟨s1, s2, s3, s4, s5, s6⟩ := hHeld
          go_simp
          refine hK.out _ _ ⟨by simp [go_sem, *], by simp [go_sem, *], cellD_some (v := .int .i64 2) (by simp [go_sem, *]), cellD_some (v := .string ⟨#[]⟩) (by simp [go_sem, *]), by simp [*], by simp [*]⟩ (fun hHeld => ?_)
          clear hK K s1 s2 s3 s4 s5 s6
          (try simp only [Act.put, List.getElem_toArray, List.getElem_cons_succ, List.getElem_cons_zero, List.setIfInBounds_toArray, List.set_cons_zero, List.set_cons_succ])
          refine wpAnyH_take (i := 8) (v := ?_) rfl (by kernel_rfl) (by kernel_rfl) (by kernel_rfl) (fun _ _ _ h => h) (Or.inl ⟨by rfl, ?_⟩) hHeld ?_
          rotate_left
          focus (intro wq hSw; go_simp; try with_reducible rfl)
          (try simp only [Act.put, List.getElem_toArray, List.getElem_cons_succ, List.getElem_cons_zero, List.setIfInBounds_toArray, List.set_cons_zero, List.set_cons_succ])
          refine wpAnyH_done (by kernel_rfl) ?_ _
          refine NoPanic.normal ?_
          clear hHeld
          go_wp2_with fail
          refine bodyPost_ret (v := .tuple #[.agg #[.int .i64 2, .string ByteArray.empty], .bool (allS xs 1)]) (by simp [results, Tryd.results43, go_sem, y0', y1']; rfl) rfl ⟨soK 2, (by rw [HC.out.1, ha]; rfl), HC.out.2, ?_⟩
          refine Below.setCell ?_ (by first | omega | (simp; done) | (simp; omega) | (simp [World.setCell]; omega)) _
          refine Below.setCell ?_ (by first | omega | (simp; done) | (simp; omega) | (simp [World.setCell]; omega)) _
          exact HB2.out.2.2.2
      | false =>
      cases h15 : (e.kind == 15) with
      | true =>
        have HS0 := Lib.hid (fun w' (hb : Below W1.heap.size W1 w') => specAllS ka kc xs 0 w' (HSL1.out.kept goodSo (Kept.below hb)))
        have HS1 := Lib.hid (fun w' (hb : Below W1.heap.size W1 w') => specAllS ka kc xs 1 w' (HSL1.out.kept goodSo (Kept.below hb)))
        rw [hxl] at HS0 HS1
        have HC : Hid ((srtE (colF cols) ls e).isSome = (allS xs 0 || allS xs 1) ∧ ∀ t, srtE (colF cols) ls e = some t → soK 2 = t) := by
          have q : srtE (colF cols) ls e = if (allS xs 0 || allS xs 1) = true then some (soK 2) else none := by rw [HEN.out]; unfold nodeS; simp only [h0, h1, h2, h5, h3, h4, h7, h6, h8, h9, h10, h11, h12, h13, h14, h15, Bool.false_eq_true, if_false, false_or, or_false, true_or, or_true, if_true]
          rw [q]
          cases (allS xs 0 || allS xs 1) with
          | true => exact ⟨rfl, fun t ht => by simpa using ht⟩
          | false => exact ⟨rfl, fun t ht => by cases ht⟩
        cases ha : allS xs 0 with
        | true =>
          rw [ha] at HS0
          go_wp2_with fail
          rw [← hW]
          clear hW
          refine wp_region_noPanic ?_
          refine wp_region_held_drew (S := fun w' => w'.cell? ⟨wr.heap.size, 0, none⟩ = some (.int .i64 2) ∧ w'.cell? ⟨wr.heap.size, 1, none⟩ = some (.string ⟨#[]⟩) ∧ w'.cell? ⟨w.heap.size + 1, 0, none⟩ = some (cellD w' ⟨w.heap.size + 1, 0, none⟩) ∧ w'.cell? ⟨w.heap.size + 1, 1, none⟩ = some (cellD w' ⟨w.heap.size + 1, 1, none⟩) ∧ w'.frozen? ⟨w.heap.size + 1, 0, none⟩ = false ∧ w'.frozen? ⟨w.heap.size + 1, 1, none⟩ = false) (by kernel_rfl) ⟨z0, z1, cellD_some u0, cellD_some u1, v0, v1⟩ (fun hHeld => ?_)
          refine wpAnyH_take (i := 0) (v := ?_) rfl (by kernel_rfl) (by kernel_rfl) (by kernel_rfl) (fun _ _ _ h => h) (Or.inl ⟨by rfl, ?_⟩) hHeld ?_
          rotate_left
          focus (intro wq hSw; obtain ⟨s1, s2, _, _, _, _⟩ := hSw; go_simp; try with_reducible rfl)
          (try simp only [Act.put, List.getElem_toArray, List.getElem_cons_succ, List.getElem_cons_zero, List.setIfInBounds_toArray, List.set_cons_zero, List.set_cons_succ])
          refine wpAnyH_take (i := 1) (v := ?_) rfl (by kernel_rfl) (by kernel_rfl) (by kernel_rfl) (fun _ _ _ h => h) (Or.inl ⟨by rfl, ?_⟩) hHeld ?_
          rotate_left
          focus (intro wq hSw; go_simp; try with_reducible rfl)
          (try simp only [Act.put, List.getElem_toArray, List.getElem_cons_succ, List.getElem_cons_zero, List.setIfInBounds_toArray, List.set_cons_zero, List.set_cons_succ])
          refine wpAnyH_ready (rs := [2]) (by kernel_rfl) (by simp) ?_
          refine AllReadyH.cons rfl (fun K hK => ?_) AllReadyH.nil
          go_simp
          refine (HS0.out _ (drewB (Below.refl _ _))).mono ?_
          rintro x w2 ⟨rfl, b2⟩
          obtain ⟨hcw, hfw⟩ := bcellE b2
          refine hK.out _ _ ⟨(hcw _ _ hzl).trans z0, (hcw _ _ hzl).trans z1, cellD_some ((hcw _ _ hn1').trans u0), cellD_some ((hcw _ _ hn1').trans u1), (hfw _ _ hn1').trans v0, (hfw _ _ hn1').trans v1⟩ (fun hHeld => ?_)
          clear hK K
          (try simp only [Act.put, List.getElem_toArray, List.getElem_cons_succ, List.getElem_cons_zero, List.setIfInBounds_toArray, List.set_cons_zero, List.set_cons_succ])
          refine wpAnyH_take (i := 3) (v := ?_) rfl (by kernel_rfl) (by kernel_rfl) (by kernel_rfl) (fun _ _ _ h => h) (Or.inl ⟨by rfl, ?_⟩) hHeld ?_
          rotate_left
          focus (intro wq hSw; go_simp; try with_reducible rfl)
          (try simp only [Act.put, List.getElem_toArray, List.getElem_cons_succ, List.getElem_cons_zero, List.setIfInBounds_toArray, List.set_cons_zero, List.set_cons_succ])
          refine wpAnyH_take (i := 4) (v := undef) rfl (by kernel_rfl) (by kernel_rfl) (by kernel_rfl) (fun _ _ _ h => h) (Or.inr ⟨by rfl, rfl⟩) hHeld ?_
          (try simp only [Act.put, List.getElem_toArray, List.getElem_cons_succ, List.getElem_cons_zero, List.setIfInBounds_toArray, List.set_cons_zero, List.set_cons_succ])
          refine wpAnyH_take (i := 5) (v := undef) rfl (by kernel_rfl) (by kernel_rfl) (by kernel_rfl) (fun _ _ _ h => h) (Or.inr ⟨by rfl, rfl⟩) hHeld ?_
          (try simp only [Act.put, List.getElem_toArray, List.getElem_cons_succ, List.getElem_cons_zero, List.setIfInBounds_toArray, List.set_cons_zero, List.set_cons_succ])
          have HB2 := Lib.hid (HBS1.out.below (drewB' b2))
          refine wpAnyH_take (i := 6) (v := ?_) rfl (by kernel_rfl) (by kernel_rfl) (by kernel_rfl) (fun _ _ _ h => h) (Or.inl ⟨by rfl, ?_⟩) hHeld ?_
          rotate_left
          focus (intro wq hSw; go_simp; try with_reducible rfl)
          (try simp only [Act.put, List.getElem_toArray, List.getElem_cons_succ, List.getElem_cons_zero, List.setIfInBounds_toArray, List.set_cons_zero, List.set_cons_succ])
          have y0' : w2.cell? ⟨w.heap.size + 1, 0, none⟩ = some (.int .i64 0) := (HB2.out.2.1.2 0 (by simp)).1
          have y1' : w2.cell? ⟨w.heap.size + 1, 1, none⟩ = some (.string ByteArray.empty) := (HB2.out.2.1.2 1 (by simp)).1
          refine wpAnyH_ready (rs := [7]) (by kernel_rfl) (by simp) ?_
          refine AllReadyH.cons rfl (fun K hK => ?_) AllReadyH.nil
          obtain ⟨s1, s2, s3, s4, s5, s6⟩ := hHeld
          go_simp
          refine hK.out _ _ ⟨by simp [go_sem, *], by simp [go_sem, *], cellD_some (v := .int .i64 2) (by simp [go_sem, *]), cellD_some (v := .string ⟨#[]⟩) (by simp [go_sem, *]), by simp [*], by simp [*]⟩ (fun hHeld => ?_)
          clear hK K s1 s2 s3 s4 s5 s6
          (try simp only [Act.put, List.getElem_toArray, List.getElem_cons_succ, List.getElem_cons_zero, List.setIfInBounds_toArray, List.set_cons_zero, List.set_cons_succ])
          refine wpAnyH_take (i := 8) (v := ?_) rfl (by kernel_rfl) (by kernel_rfl) (by kernel_rfl) (fun _ _ _ h => h) (Or.inl ⟨by rfl, ?_⟩) hHeld ?_
          rotate_left
          focus (intro wq hSw; go_simp; try with_reducible rfl)
          (try simp only [Act.put, List.getElem_toArray, List.getElem_cons_succ, List.getElem_cons_zero, List.setIfInBounds_toArray, List.set_cons_zero, List.set_cons_succ])
          refine wpAnyH_done (by kernel_rfl) ?_ _
          refine NoPanic.normal ?_
          clear hHeld
          go_wp2_with fail
          refine bodyPost_ret (v := .tuple #[.agg #[.int .i64 2, .string ByteArray.empty], .bool (true)]) (by simp [results, Tryd.results43, go_sem, y0', y1']; rfl) rfl ⟨soK 2, (by rw [HC.out.1, ha]; rfl), HC.out.2, ?_⟩
          refine Below.setCell ?_ (by first | omega | (simp; done) | (simp; omega) | (simp [World.setCell]; omega)) _
          refine Below.setCell ?_ (by first | omega | (simp; done) | (simp; omega) | (simp [World.setCell]; omega)) _
          exact HB2.out.2.2.2
        | false =>
          rw [ha] at HS0
          go_wp2_with fail
          rw [← hW]
          clear hW
          refine wp_region_noPanic ?_
          refine wp_region_held_drew (S := fun w' => w'.cell? ⟨wr.heap.size, 0, none⟩ = some (.int .i64 2) ∧ w'.cell? ⟨wr.heap.size, 1, none⟩ = some (.string ⟨#[]⟩) ∧ w'.cell? ⟨w.heap.size + 1, 0, none⟩ = some (cellD w' ⟨w.heap.size + 1, 0, none⟩) ∧ w'.cell? ⟨w.heap.size + 1, 1, none⟩ = some (cellD w' ⟨w.heap.size + 1, 1, none⟩) ∧ w'.frozen? ⟨w.heap.size + 1, 0, none⟩ = false ∧ w'.frozen? ⟨w.heap.size + 1, 1, none⟩ = false) (by kernel_rfl) ⟨z0, z1, cellD_some u0, cellD_some u1, v0, v1⟩ (fun hHeld => ?_)
          refine wpAnyH_take (i := 0) (v := ?_) rfl (by kernel_rfl) (by kernel_rfl) (by kernel_rfl) (fun _ _ _ h => h) (Or.inl ⟨by rfl, ?_⟩) hHeld ?_
          rotate_left
          focus (intro wq hSw; obtain ⟨s1, s2, _, _, _, _⟩ := hSw; go_simp; try with_reducible rfl)
          (try simp only [Act.put, List.getElem_toArray, List.getElem_cons_succ, List.getElem_cons_zero, List.setIfInBounds_toArray, List.set_cons_zero, List.set_cons_succ])
          refine wpAnyH_take (i := 1) (v := ?_) rfl (by kernel_rfl) (by kernel_rfl) (by kernel_rfl) (fun _ _ _ h => h) (Or.inl ⟨by rfl, ?_⟩) hHeld ?_
          rotate_left
          focus (intro wq hSw; go_simp; try with_reducible rfl)
          (try simp only [Act.put, List.getElem_toArray, List.getElem_cons_succ, List.getElem_cons_zero, List.setIfInBounds_toArray, List.set_cons_zero, List.set_cons_succ])
          refine wpAnyH_ready (rs := [2]) (by kernel_rfl) (by simp) ?_
          refine AllReadyH.cons rfl (fun K hK => ?_) AllReadyH.nil
          go_simp
          refine (HS0.out _ (drewB (Below.refl _ _))).mono ?_
          rintro x w2 ⟨rfl, b2⟩
          obtain ⟨hcw, hfw⟩ := bcellE b2
          refine hK.out _ _ ⟨(hcw _ _ hzl).trans z0, (hcw _ _ hzl).trans z1, cellD_some ((hcw _ _ hn1').trans u0), cellD_some ((hcw _ _ hn1').trans u1), (hfw _ _ hn1').trans v0, (hfw _ _ hn1').trans v1⟩ (fun hHeld => ?_)
          clear hK K
          (try simp only [Act.put, List.getElem_toArray, List.getElem_cons_succ, List.getElem_cons_zero, List.setIfInBounds_toArray, List.set_cons_zero, List.set_cons_succ])
          refine wpAnyH_take (i := 3) (v := ?_) rfl (by kernel_rfl) (by kernel_rfl) (by kernel_rfl) (fun _ _ _ h => h) (Or.inl ⟨by rfl, ?_⟩) hHeld ?_
          rotate_left
          focus (intro wq hSw; go_simp; try with_reducible rfl)
          (try simp only [Act.put, List.getElem_toArray, List.getElem_cons_succ, List.getElem_cons_zero, List.setIfInBounds_toArray, List.set_cons_zero, List.set_cons_succ])
          refine wpAnyH_take (i := 4) (v := ?_) rfl (by kernel_rfl) (by kernel_rfl) (by kernel_rfl) (fun _ _ _ h => h) (Or.inl ⟨by rfl, ?_⟩) hHeld ?_
          rotate_left
          focus (intro wq hSw; go_simp; try with_reducible rfl)
          (try simp only [Act.put, List.getElem_toArray, List.getElem_cons_succ, List.getElem_cons_zero, List.setIfInBounds_toArray, List.set_cons_zero, List.set_cons_succ])
          refine wpAnyH_ready (rs := [5]) (by kernel_rfl) (by simp) ?_
          refine AllReadyH.cons rfl (fun K hK => ?_) AllReadyH.nil
          go_simp
          refine (HS1.out _ (drewB' b2)).mono ?_
          rintro x w3 ⟨rfl, b3⟩
          obtain ⟨hcw3, hfw3⟩ := bcellE b3
          have hz2 := Nat.lt_of_lt_of_le hzl (drewB' b2).size
          have hz3 := Nat.lt_of_lt_of_le hn1' (drewB' b2).size
          refine hK.out _ _ ⟨(hcw3 _ _ hz2).trans ((hcw _ _ hzl).trans z0), (hcw3 _ _ hz2).trans ((hcw _ _ hzl).trans z1), cellD_some ((hcw3 _ _ hz3).trans ((hcw _ _ hn1').trans u0)), cellD_some ((hcw3 _ _ hz3).trans ((hcw _ _ hn1').trans u1)), (hfw3 _ _ hz3).trans ((hfw _ _ hn1').trans v0), (hfw3 _ _ hz3).trans ((hfw _ _ hn1').trans v1)⟩ (fun hHeld => ?_)
          clear hK K
          (try simp only [Act.put, List.getElem_toArray, List.getElem_cons_succ, List.getElem_cons_zero, List.setIfInBounds_toArray, List.set_cons_zero, List.set_cons_succ])
          have HB2 := Lib.hid ((HBS1.out.below (drewB' b2)).below b3)
          refine wpAnyH_take (i := 6) (v := ?_) rfl (by kernel_rfl) (by kernel_rfl) (by kernel_rfl) (fun _ _ _ h => h) (Or.inl ⟨by rfl, ?_⟩) hHeld ?_
          rotate_left
          focus (intro wq hSw; go_simp; try with_reducible rfl)
          (try simp only [Act.put, List.getElem_toArray, List.getElem_cons_succ, List.getElem_cons_zero, List.setIfInBounds_toArray, List.set_cons_zero, List.set_cons_succ])
          have y0' : w3.cell? ⟨w.heap.size + 1, 0, none⟩ = some (.int .i64 0) := (HB2.out.2.1.2 0 (by simp)).1
          have y1' : w3.cell? ⟨w.heap.size + 1, 1, none⟩ = some (.string ByteArray.empty) := (HB2.out.2.1.2 1 (by simp)).1
          refine wpAnyH_ready (rs := [7]) (by kernel_rfl) (by simp) ?_
          refine AllReadyH.cons rfl (fun K hK => ?_) AllReadyH.nil
          obtain ⟨s1, s2, s3, s4, s5, s6⟩ := hHeld
          go_simp
          refine hK.out _ _ ⟨by simp [go_sem, *], by simp [go_sem, *], cellD_some (v := .int .i64 2) (by simp [go_sem, *]), cellD_some (v := .string ⟨#[]⟩) (by simp [go_sem, *]), by simp [*], by simp [*]⟩ (fun hHeld => ?_)
          clear hK K s1 s2 s3 s4 s5 s6
          (try simp only [Act.put, List.getElem_toArray, List.getElem_cons_succ, List.getElem_cons_zero, List.setIfInBounds_toArray, List.set_cons_zero, List.set_cons_succ])
          refine wpAnyH_take (i := 8) (v := ?_) rfl (by kernel_rfl) (by kernel_rfl) (by kernel_rfl) (fun _ _ _ h => h) (Or.inl ⟨by rfl, ?_⟩) hHeld ?_
          rotate_left
          focus (intro wq hSw; go_simp; try with_reducible rfl)
          (try simp only [Act.put, List.getElem_toArray, List.getElem_cons_succ, List.getElem_cons_zero, List.setIfInBounds_toArray, List.set_cons_zero, List.set_cons_succ])
          refine wpAnyH_done (by kernel_rfl) ?_ _
          refine NoPanic.normal ?_
          clear hHeld
          go_wp2_with fail
          refine bodyPost_ret (v := .tuple #[.agg #[.int .i64 2, .string ByteArray.empty], .bool (allS xs 1)]) (by simp [results, Tryd.results43, go_sem, y0', y1']; rfl) rfl ⟨soK 2, (by rw [HC.out.1, ha]; rfl), HC.out.2, ?_⟩
          refine Below.setCell ?_ (by first | omega | (simp; done) | (simp; omega) | (simp [World.setCell]; omega)) _
          refine Below.setCell ?_ (by first | omega | (simp; done) | (simp; omega) | (simp [World.setCell]; omega)) _
          exact HB2.out.2.2.2
      | false =>
      have HS0 := Lib.hid (fun w' (hb : Below W1.heap.size W1 w') => specAllS ka kc xs 0 w' (HSL1.out.kept goodSo (Kept.below hb)))
      rw [hxl] at HS0
      go_wp2_with fail
      rw [← hW]
      clear hW
      refine (HS0.out _ (Below.refl _ _)).mono ?_
      rintro x w2 ⟨rfl, b2⟩
      obtain ⟨hcw, hfw⟩ := bcellE b2
      have HB2 := Lib.hid (HBS1.out.below b2)
      have y0' : w2.cell? ⟨w.heap.size + 1, 0, none⟩ = some (.int .i64 0) := (HB2.out.2.1.2 0 (by simp)).1
      have y1' : w2.cell? ⟨w.heap.size + 1, 1, none⟩ = some (.string ByteArray.empty) := (HB2.out.2.1.2 1 (by simp)).1
      have HC : Hid ((srtE (colF cols) ls e).isSome = (allS xs 0) ∧ ∀ t, srtE (colF cols) ls e = some t → soK 0 = t) := by
        have q : srtE (colF cols) ls e = if (allS xs 0) = true then some (soK 0) else none := by rw [HEN.out]; simp [nodeS, h0, h1, h2, h5, h3, h4, h7, h6, h8, h9, h10, h11, h12, h13, h14, h15]
        rw [q]
        cases (allS xs 0) with
        | true => exact ⟨rfl, fun t ht => by simpa using ht⟩
        | false => exact ⟨rfl, fun t ht => by cases ht⟩
      have f0' : w2.frozen? ⟨w.heap.size + 1, 0, none⟩ = false := (HB2.out.2.1.2 0 (by simp)).2
      have f1' : w2.frozen? ⟨w.heap.size + 1, 1, none⟩ = false := (HB2.out.2.1.2 1 (by simp)).2
      clear b2 hcw hfw
      go_wp2_with fail
      refine bodyPost_ret (v := .tuple #[.agg #[.int .i64 0, .string ByteArray.empty], .bool (allS xs 0)]) (by simp [results, Tryd.results43, go_sem, y0', y1']; rfl) rfl ⟨soK 0, (by rw [HC.out.1]; rfl), HC.out.2, ?_⟩
      refine Below.setCell ?_ (by first | omega | (simp; done) | (simp; omega) | (simp [World.setCell]; omega)) _
      refine Below.setCell ?_ (by first | omega | (simp; done) | (simp; omega) | (simp [World.setCell]; omega)) _
      exact HB2.out.2.2.2

theorem specSrt (ca : Option Addr) (cc : Nat) (cols : List Co) (la : Option Addr) (lc : Nat) (ls : List Lb) (w0 : World) (hC : Sl 6 RCo 0 w0 ca cc cols) (hL : Lbs w0 la lc ls) : (d : Nat) → SrtP ca cc cols la lc ls w0 d
  | 0 => fun _ _ _ _ _ h => h.elim
  | d + 1 => specSortS ca cc cols la lc ls w0 hC hL d (specSrt ca cc cols la lc ls w0 hC hL d)

end Go.Proofs.YtpdcmmhhgnackaaDoor
