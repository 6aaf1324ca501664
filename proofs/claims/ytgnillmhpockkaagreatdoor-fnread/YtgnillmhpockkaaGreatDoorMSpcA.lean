/- The model's reader of expressions: what its functions answer; l04Atom. -/
import Derived.Test.YtgnillmhpockkaaGreatDoorMDrawLex
namespace Go.Proofs.YtgnillmhpockkaaGreatDoor
open Go.RowKit

/-- What l04Any and l04Atom answer. -/
def AnyR (w : World) (l : List Tk) (ans : Option (Ex × List W)) (x : Ending) (w' : World) : Prop :=
  match ans with
  | some (e, r) => ∃ (ea : Option Addr) (ec m : Nat) (mi : Int), x = .returned (.tuple #[.agg #[.int .i64 e.kind, .string e.text, .int .i64 e.num, .slice ea e.kids.length ec], .int .i64 mi]) ∧ mi = (m : Int) ∧ r = left l m ∧ m ≤ l.length ∧ TrQ w' (fun b => w.heap.size ≤ b) e ea ec ∧ Below w.heap.size w w'
  | none => ∃ (v0 : Int) (v1 : ByteArray) (v2 : Int) (va : Option Addr) (vn vc : Nat), x = .returned (.tuple #[.agg #[.int .i64 v0, .string v1, .int .i64 v2, .slice va vn vc], .int .i64 (-1)]) ∧ Below w.heap.size w w'

theorem AnyR.yes {w V : World} {l : List Tk} {e : Ex} {a : Option Addr} {c m : Nat} (ht : TrQ V (fun b => w.heap.size < b) e a c) (hb : Below w.heap.size w V) (hm : m ≤ l.length) {r : List W} (hr : r = left l m) {mi : Int} (hmi : mi = (m : Int)) {v0 v1 v2 v3 : Value} {W' : World} (hW : W' = (((V.setCell ⟨w.heap.size, 0, none⟩ v0).setCell ⟨w.heap.size, 1, none⟩ v1).setCell ⟨w.heap.size, 2, none⟩ v2).setCell ⟨w.heap.size, 3, none⟩ v3) :
    AnyR w l (some (e, r)) (.returned (.tuple #[.agg #[.int .i64 e.kind, .string e.text, .int .i64 e.num, .slice a e.kids.length c], .int .i64 mi])) W' := by
  subst hW
  have hq : ¬ w.heap.size < w.heap.size := Nat.lt_irrefl _
  refine ⟨a, c, m, mi, rfl, hmi, hr, hm, ((((ht.set hq 0 v0).set hq 1 v1).set hq 2 v2).set hq 3 v3).imp fun b hb _ => by omega, ?_⟩
  exact (((hb.setCell (p := ⟨w.heap.size, 0, none⟩) (Nat.le_refl _) v0).setCell (p := ⟨w.heap.size, 1, none⟩) (Nat.le_refl _) v1).setCell (p := ⟨w.heap.size, 2, none⟩) (Nat.le_refl _) v2).setCell (p := ⟨w.heap.size, 3, none⟩) (Nat.le_refl _) v3

theorem AnyR.no {w V : World} {l : List Tk} (hb : Below w.heap.size w V) {v0 v1 v2 v3 : Value} {u0 u2 : Int} {u1 : ByteArray} {ua : Option Addr} {un uc : Nat} {W' : World} (hW : W' = (((V.setCell ⟨w.heap.size, 0, none⟩ v0).setCell ⟨w.heap.size, 1, none⟩ v1).setCell ⟨w.heap.size, 2, none⟩ v2).setCell ⟨w.heap.size, 3, none⟩ v3) :
    AnyR w l none (.returned (.tuple #[.agg #[.int .i64 u0, .string u1, .int .i64 u2, .slice ua un uc], .int .i64 (-1)])) W' := by
  subst hW
  exact ⟨u0, u1, u2, ua, un, uc, rfl, (((hb.setCell (p := ⟨w.heap.size, 0, none⟩) (Nat.le_refl _) v0).setCell (p := ⟨w.heap.size, 1, none⟩) (Nat.le_refl _) v1).setCell (p := ⟨w.heap.size, 2, none⟩) (Nat.le_refl _) v2).setCell (p := ⟨w.heap.size, 3, none⟩) (Nat.le_refl _) v3⟩

theorem leaf_fit {k n : Int} {t : List UInt8} (hk : i64E k) (hn : i64E n) (ht : t.length ≤ maxLen) : (leaf k t n).fit := ⟨by show (txt t).size ≤ maxLen; rw [txt_size]; exact ht, hk, hn⟩

theorem AnyR.word {w V : World} {l : List Tk} {k : Int} {tt : ByteArray} {m : Nat} (hk : i64E k) (htt : tt.size ≤ maxLen) (hb : Below w.heap.size w V) (hm : m ≤ l.length) {mi : Int} (hmi : mi = (m : Int)) {v0 v1 v2 v3 : Value} {W' : World} (hW : W' = (((V.setCell ⟨w.heap.size, 0, none⟩ v0).setCell ⟨w.heap.size, 1, none⟩ v1).setCell ⟨w.heap.size, 2, none⟩ v2).setCell ⟨w.heap.size, 3, none⟩ v3) :
    AnyR w l (some (leaf k tt.data.toList 0, left l m)) (.returned (.tuple #[.agg #[.int .i64 k, .string tt, .int .i64 0, .slice none 0 0], .int .i64 mi])) W' := by
  have := AnyR.yes (l := l) (e := leaf k tt.data.toList 0) (a := none) (c := 0) (TrQ.leaf (leaf_fit hk (by unfold i64E; omega) (by simpa using htt)) rfl) hb hm rfl hmi hW
  rw [show (leaf k tt.data.toList 0).text = tt from txt_data tt] at this
  exact this

def AtomAt (a : Option Addr) (c : Nat) (l : List Tk) (f : Nat) : Prop := ∀ (at_ : Nat) (w : World), Toks w a c l → at_ ≤ l.length + 1 → 10 * (left l at_).length + 2 ≤ f →
  Calls Tryz.prog 91 #[.slice a l.length c, .int .i64 (at_ : Int)] w (AnyR w l (atomP f (left l at_)))

def AnyAt (a : Option Addr) (c : Nat) (l : List Tk) (f : Nat) : Prop := ∀ (L at_ : Nat) (w : World), 1 ≤ L → L ≤ 7 → Toks w a c l → at_ ≤ l.length + 1 → enough f L (left l at_) →
  Calls Tryz.prog 62 #[.slice a l.length c, .int .i64 (at_ : Int), .int .i64 (L : Int)] w (AnyR w l (anyP f L (left l at_)))

/-- The box of the answer, and that of the word. -/
structure AtS (w : World) (a : Option Addr) (c : Nat) (l : List Tk) (kk : Int) (tt : ByteArray) (pp : Int) (W : World) : Prop where
  r : ExRow W w.heap.size 0 ⟨#[]⟩ 0 (.slice none 0 0)
  t : W.heap[w.heap.size + 1]? = some (.cells #[.int .i64 kk, .string tt, .int .i64 pp] 36 (0, 0))
  tok : Toks W a c l
  bel : Below w.heap.size w W

theorem AtS.below {w : World} {a : Option Addr} {c : Nat} {l : List Tk} {kk pp : Int} {tt : ByteArray} {W W' : World} (h : AtS w a c l kk tt pp W) (hb : Below W.heap.size W W') : AtS w a c l kk tt pp W' :=
  ⟨h.r.below hb, (hb.block _ (by rcases Nat.lt_or_ge (w.heap.size + 1) W.heap.size with h' | h'; exact h'; have := h.t; rw [Array.getElem?_eq_none h'] at this; cases this)).trans h.t, h.tok.below hb, h.bel.trans (hb.mono h.bel.size)⟩

theorem AtS.cells {w : World} {a : Option Addr} {c : Nat} {l : List Tk} {kk pp : Int} {tt : ByteArray} {W : World} (h : AtS w a c l kk tt pp W) : W.cell? ⟨w.heap.size + 1, 0, none⟩ = some (.int .i64 kk) ∧ W.cell? ⟨w.heap.size + 1, 1, none⟩ = some (.string tt) :=
  ⟨by rw [cell_of_row _ _ _ _ _ _ h.t]; rfl, by rw [cell_of_row _ _ _ _ _ _ h.t]; rfl⟩

set_option maxRecDepth 100000 in
set_option maxHeartbeats 8000000 in
theorem spcAtom {a : Option Addr} {c : Nat} {l : List Tk} (hl : l.length ≤ 1000000) (hts : ∀ x ∈ l, x.text.size ≤ 1048576) {f : Nat} (ia : AnyAt a c l f) : AtomAt a c l (f + 1) := by
  intro at_ w ht hat hen
  have hw1 : IntKind.i64.wrap ((l.length : Int) - 1) = (l.length : Int) - 1 := IntWalk.i64_in _ (by omega)
  have HB0 := Lib.hid (show Below w.heap.size w (w.alloc (.cells #[.int .i64 0, .string ⟨#[]⟩, .int .i64 0, .slice none 0 0] 32)) from (Below.refl _ _).alloc (Nat.le_refl _) _)
  by_cases hlt : at_ < l.length
  · have HIN : Hid (inI (at_ : Int) 0 ((l.length : Int) - 1) = true) := by unfold Hid inI; rw [decide_eq_true (by omega), decide_eq_true (by omega)]; rfl
    obtain ⟨b, off, hab, hbl, t0, t1, t2⟩ := (ht.below HB0.out).spot hlt
    have HX : Hid (left l at_ = (l[at_].kind, l[at_].text.data.toList) :: left l (at_ + 1)) := left_cons hlt
    have HFT : Hid (isI64 l[at_].kind ∧ l[at_].text.size ≤ maxLen) := ⟨(ht.2.2.1 _ (List.getElem_mem hlt)).1, (ht.2.2.1 _ (List.getElem_mem hlt)).2.1⟩
    have HT1 : Hid (l[at_].text.size ≤ 1048576) := hts _ (List.getElem_mem hlt)
    have h0 : (0 : Int) ≤ (at_ : Int) := by omega
    have h1 : (at_ : Int) < (l.length : Int) := by omega
    have HTK := Lib.hid (ht.below HB0.out)
    obtain ⟨kk, hkk⟩ : ∃ kk, kk = l[at_].kind := ⟨_, rfl⟩
    obtain ⟨tt, htt⟩ : ∃ tt, tt = l[at_].text := ⟨_, rfl⟩
    obtain ⟨pp, hpp⟩ : ∃ pp, pp = l[at_].at_ := ⟨_, rfl⟩
    rw [← hkk] at t0 HX HFT
    rw [← htt] at t1 HX HFT HT1
    rw [← hpp] at t2
    have HA : Hid (AtS w a c l kk tt pp ((w.alloc (.cells #[.int .i64 0, .string ⟨#[]⟩, .int .i64 0, .slice none 0 0] 32)).alloc (.cells #[.int .i64 kk, .string tt, .int .i64 pp] 36))) := by
      have hb := (Below.refl (w.alloc (.cells #[.int .i64 0, .string ⟨#[]⟩, .int .i64 0, .slice none 0 0] 32)).heap.size (w.alloc (.cells #[.int .i64 0, .string ⟨#[]⟩, .int .i64 0, .slice none 0 0] 32))).alloc (Nat.le_refl _) (.cells #[.int .i64 kk, .string tt, .int .i64 pp] 36)
      have g := heap_alloc_new (w.alloc (.cells #[.int .i64 0, .string ⟨#[]⟩, .int .i64 0, .slice none 0 0] 32)) (.cells #[.int .i64 kk, .string tt, .int .i64 pp] 36)
      rw [size_allocE] at g
      exact ⟨(exRow_new w _ _ _ _).below hb, g, HTK.out.below hb, HB0.out.trans (hb.mono HB0.out.size)⟩
    subst hab
    clear ht hkk htt hpp
    go_enter Tryz.func91, Tryz.ntmps91
    go_wp2_with fail
    refine (specInIs _ _ _ _ true HIN.out).mono ?_
    rintro e w' ⟨rfl, rfl⟩
    obtain ⟨r0, r1, r2, r3, rf⟩ := HA.out.r.cells
    obtain ⟨k0, k1⟩ := HA.out.cells
    by_cases e2 : kk = 2
    · subst e2
      have HP : Hid (atomP (f + 1) (left l at_) = some (leaf 1 [] (readD tt.data.toList), left l (at_ + 1))) := by unfold Hid; rw [HX.out, atomP, if_pos rfl]
      go_wp2_with fail
      generalize (w.alloc (.cells #[.int .i64 0, .string ⟨#[]⟩, .int .i64 0, .slice none 0 0] 32)).alloc (.cells #[.int .i64 2, .string tt, .int .i64 pp] 36) = W1 at HA k0 k1 r0 r1 r2 r3 rf ⊢
      refine (specReadDec tt _ HT1.out).mono ?_
      rintro e w' ⟨rfl, rfl⟩
      go_wp2_with fail
      refine bodyPost_ret (v := .tuple #[.agg #[.int .i64 1, .string ⟨#[]⟩, .int .i64 (readD tt.data.toList), .slice none 0 0], .int .i64 ((at_ : Int) + 1)]) (by simp [results, Tryz.results91, go_sem, *]) rfl ?_
      rw [HP.out]
      exact AnyR.yes (l := l) (m := at_ + 1) (mi := (at_ : Int) + 1) (e := leaf 1 [] (readD tt.data.toList)) (a := none) (c := 0) (TrQ.leaf (leaf_fit (by unfold i64E; omega) (readD_fits _) (by unfold maxLen; exact Nat.zero_le _)) rfl) HA.out.bel (by omega) rfl (by omega) rfl
    have n2 : (kk == 2) = false := by rw [beq_eq_false_iff_ne]; exact e2
    by_cases e3 : kk = 3
    · subst e3
      have HP : Hid (atomP (f + 1) (left l at_) = some (leaf 2 tt.data.toList 0, left l (at_ + 1))) := by unfold Hid; rw [HX.out, atomP, if_neg (show ¬ ((3 : Int) = 2) by decide), if_pos rfl]
      go_wp2_with fail
      refine bodyPost_ret (v := .tuple #[.agg #[.int .i64 2, .string tt, .int .i64 0, .slice none 0 0], .int .i64 ((at_ : Int) + 1)]) (by simp [results, Tryz.results91, go_sem, *]) rfl ?_
      rw [HP.out]
      exact AnyR.word (v0 := .int .i64 2) (v1 := .string tt) (v2 := .int .i64 0) (v3 := .slice none 0 0) (m := at_ + 1) (by unfold i64E; omega) HFT.out.2 HA.out.bel (by omega) (mi := (at_ : Int) + 1) (by omega) (by simp [go_sem])
    have n3 : (kk == 3) = false := by rw [beq_eq_false_iff_ne]; exact e3
    have HAD := Lib.hid (HA.out.below (below_drewE (Below.refl _ _)))
    by_cases e1 : kk = 1
    · subst e1
      have HP : Hid (atomP (f + 1) (left l at_) = some (leaf 0 tt.data.toList 0, left l (at_ + 1))) := by unfold Hid; rw [HX.out, atomP, if_neg (show ¬ ((1 : Int) = 2) by decide), if_neg (show ¬ ((1 : Int) = 3) by decide), if_pos (.inl rfl)]
      go_wp2_with fail
      generalize (w.alloc (.cells #[.int .i64 0, .string ⟨#[]⟩, .int .i64 0, .slice none 0 0] 32)).alloc (.cells #[.int .i64 1, .string tt, .int .i64 pp] 36) = W1 at HA HAD k0 k1 r0 r1 r2 r3 rf ⊢
      obtain ⟨r0, r1, r2, r3, rf⟩ := HAD.out.r.cells
      obtain ⟨k0, k1⟩ := HAD.out.cells
      go_quiet (fail)
      have HQ := Lib.hid (HA.out.below (below_drewN (Below.refl _ _) nq))
      clear k0 k1 r0 r1 r2 r3 rf
      generalize W1.drewN nq = w8 at HQ ⊢
      obtain ⟨r0, r1, r2, r3, rf⟩ := HQ.out.r.cells
      obtain ⟨k0, k1⟩ := HQ.out.cells
      go_wp2_with fail
      refine bodyPost_ret (v := .tuple #[.agg #[.int .i64 0, .string tt, .int .i64 0, .slice none 0 0], .int .i64 ((at_ : Int) + 1)]) (by simp [results, Tryz.results91, go_sem, *]) rfl ?_
      rw [HP.out]
      exact AnyR.word (m := at_ + 1) (by unfold i64E; omega) HFT.out.2 HQ.out.bel (by omega) (mi := (at_ : Int) + 1) (by omega) rfl
    have n1 : (kk == 1) = false := by rw [beq_eq_false_iff_ne]; exact e1
    by_cases e0 : kk = 0
    · have b0 : (kk == 0) = true := by simp [e0]
      obtain ⟨kp, hkp⟩ : ∃ kp, keptB tt.data.toList = kp := ⟨_, rfl⟩
      have HKP := Lib.hid hkp
      have HE0 := Lib.hid e0
      have HE := Lib.hid (show ¬ kk = 2 ∧ ¬ kk = 3 ∧ ¬ kk = 1 from ⟨e2, e3, e1⟩)
      clear hkp e0 e1 e2 e3
      go_wp2_with fail
      generalize (w.alloc (.cells #[.int .i64 0, .string ⟨#[]⟩, .int .i64 0, .slice none 0 0] 32)).alloc (.cells #[.int .i64 kk, .string tt, .int .i64 pp] 36) = W1 at HA HAD k0 k1 r0 r1 r2 r3 rf ⊢
      have hst : Hid (∀ p q : World, ((p.cell? ⟨w.heap.size + 1, 0, none⟩ = some (.int .i64 kk) ∧ p.cell? ⟨w.heap.size + 1, 1, none⟩ = some (.string tt)) ∧ Hid (AtS w (some ⟨b, off, none⟩) c l kk tt pp p)) → Below p.heap.size p q → ((q.cell? ⟨w.heap.size + 1, 0, none⟩ = some (.int .i64 kk) ∧ q.cell? ⟨w.heap.size + 1, 1, none⟩ = some (.string tt)) ∧ Hid (AtS w (some ⟨b, off, none⟩) c l kk tt pp q))) := fun p q h hb => ⟨(h.2.out.below hb).cells, h.2.out.below hb⟩
      go_region_held3 (fun p => (p.cell? ⟨w.heap.size + 1, 0, none⟩ = some (.int .i64 kk) ∧ p.cell? ⟨w.heap.size + 1, 1, none⟩ = some (.string tt)) ∧ Hid (AtS w (some ⟨b, off, none⟩) c l kk tt pp p)) (first | assumption | exact ⟨HAD.out.cells, HAD.out⟩)
        (first
          | (go_at_call 36; refine (specKept _).mono ?_; rintro x wq ⟨rfl, sq, bq⟩; have hq := hst.out _ _ (by assumption) bq; have SQ := Lib.hid sq; clear bq sq)
          | (go_at_call 35; refine (specHasKept _ _ tt SQ.out kp HKP.out).mono ?_; rintro x wz ⟨rfl, bz⟩; have hz := hst.out _ _ (by assumption) bz; clear bz))
      have HZ := Lib.hid hz.2.out
      clear hz hq hst k0 k1 r0 r1 r2 r3 rf
      generalize wz = w8 at *
      obtain ⟨r0, r1, r2, r3, rf⟩ := HZ.out.r.cells
      obtain ⟨k0, k1⟩ := HZ.out.cells
      cases kp with
      | false =>
        have HP : Hid (atomP (f + 1) (left l at_) = some (leaf 0 tt.data.toList 0, left l (at_ + 1))) := by unfold Hid; rw [HX.out, atomP, if_neg HE.out.1, if_neg HE.out.2.1, if_pos (.inr ⟨HE0.out, HKP.out⟩)]
        go_wp2_with fail
        refine bodyPost_ret (v := .tuple #[.agg #[.int .i64 0, .string tt, .int .i64 0, .slice none 0 0], .int .i64 ((at_ : Int) + 1)]) (by simp [results, Tryz.results91, go_sem, *]) rfl ?_
        rw [HP.out]
        exact AnyR.word (m := at_ + 1) (by unfold i64E; omega) HFT.out.2 HZ.out.bel (by omega) (mi := (at_ : Int) + 1) (by omega) rfl
      | true =>
        have HK : Hid (¬ kk = 2 ∧ ¬ kk = 3 ∧ ¬ (kk = 1 ∨ (kk = 0 ∧ keptB tt.data.toList = false))) := ⟨HE.out.1, HE.out.2.1, fun h => by rcases h with h | h; exact HE.out.2.2 h; have := HKP.out; rw [h.2] at this; cases this⟩
        obtain ⟨u3, hu3⟩ : ∃ u, hdW (left l at_) wTrue = u := ⟨_, rfl⟩
        have HU3 := Lib.hid hu3
        go_wp2_with fail
        refine (specIsH HZ.out.tok hl at_ (by omega) ⟨#[116, 114, 117, 101]⟩ u3 hu3).mono ?_
        rintro e w' ⟨rfl, rfl⟩
        clear hu3
        cases u3 with
        | true =>
          have HP : Hid (atomP (f + 1) (left l at_) = some (leaf 3 [] 0, left l (at_ + 1))) := by
            unfold Hid
            have h := HU3.out
            rw [HX.out] at h ⊢
            rw [atomP, if_neg HK.out.1, if_neg HK.out.2.1, if_neg HK.out.2.2, if_pos (show isW _ wTrue = true from h)]
          go_wp2_with fail
          refine bodyPost_ret (v := .tuple #[.agg #[.int .i64 3, .string ⟨#[]⟩, .int .i64 0, .slice none 0 0], .int .i64 ((at_ : Int) + 1)]) (by simp [results, Tryz.results91, go_sem, *]) rfl ?_
          rw [HP.out]
          exact AnyR.yes (l := l) (m := at_ + 1) (mi := (at_ : Int) + 1) (e := leaf 3 [] 0) (a := none) (c := 0) (TrQ.leaf (leaf_fit (by unfold i64E; omega) (by unfold i64E; omega) (by unfold maxLen; exact Nat.zero_le _)) rfl) HZ.out.bel (by omega) rfl (by omega) rfl
        | false =>
          obtain ⟨u4, hu4⟩ : ∃ u, hdW (left l at_) wFalse = u := ⟨_, rfl⟩
          have HU4 := Lib.hid hu4
          go_wp2_with fail
          refine (specIsH HZ.out.tok hl at_ (by omega) ⟨#[102, 97, 108, 115, 101]⟩ u4 hu4).mono ?_
          rintro e w' ⟨rfl, rfl⟩
          clear hu4
          cases u4 with
          | true =>
            have HP : Hid (atomP (f + 1) (left l at_) = some (leaf 4 [] 0, left l (at_ + 1))) := by
              unfold Hid
              have h := HU4.out
              rw [HX.out] at h ⊢
              rw [atomP, if_neg HK.out.1, if_neg HK.out.2.1, if_neg HK.out.2.2, if_neg (show ¬ isW _ wTrue = true from fun h => by have h2 := HU3.out; rw [HX.out] at h2; exact absurd h (by rw [show isW _ wTrue = false from h2]; decide)), if_pos (show isW _ wFalse = true from h)]
            go_wp2_with fail
            refine bodyPost_ret (v := .tuple #[.agg #[.int .i64 4, .string ⟨#[]⟩, .int .i64 0, .slice none 0 0], .int .i64 ((at_ : Int) + 1)]) (by simp [results, Tryz.results91, go_sem, *]) rfl ?_
            rw [HP.out]
            exact AnyR.yes (l := l) (m := at_ + 1) (mi := (at_ : Int) + 1) (e := leaf 4 [] 0) (a := none) (c := 0) (TrQ.leaf (leaf_fit (by unfold i64E; omega) (by unfold i64E; omega) (by unfold maxLen; exact Nat.zero_le _)) rfl) HZ.out.bel (by omega) rfl (by omega) rfl
          | false =>
            obtain ⟨u5, hu5⟩ : ∃ u, hdW (left l at_) wNull = u := ⟨_, rfl⟩
            have HU5 := Lib.hid hu5
            go_wp2_with fail
            refine (specIsH HZ.out.tok hl at_ (by omega) ⟨#[110, 117, 108, 108]⟩ u5 hu5).mono ?_
            rintro e w' ⟨rfl, rfl⟩
            clear hu5
            cases u5 with
            | true =>
              have HP : Hid (atomP (f + 1) (left l at_) = some (leaf 5 [] 0, left l (at_ + 1))) := by
                unfold Hid
                have h := HU5.out
                rw [HX.out] at h ⊢
                rw [atomP, if_neg HK.out.1, if_neg HK.out.2.1, if_neg HK.out.2.2, if_neg (show ¬ isW _ wTrue = true from fun h => by have h2 := HU3.out; rw [HX.out] at h2; exact absurd h (by rw [show isW _ wTrue = false from h2]; decide)), if_neg (show ¬ isW _ wFalse = true from fun h => by have h2 := HU4.out; rw [HX.out] at h2; exact absurd h (by rw [show isW _ wFalse = false from h2]; decide)), if_pos (show isW _ wNull = true from h)]
              go_wp2_with fail
              refine bodyPost_ret (v := .tuple #[.agg #[.int .i64 5, .string ⟨#[]⟩, .int .i64 0, .slice none 0 0], .int .i64 ((at_ : Int) + 1)]) (by simp [results, Tryz.results91, go_sem, *]) rfl ?_
              rw [HP.out]
              exact AnyR.yes (l := l) (m := at_ + 1) (mi := (at_ : Int) + 1) (e := leaf 5 [] 0) (a := none) (c := 0) (TrQ.leaf (leaf_fit (by unfold i64E; omega) (by unfold i64E; omega) (by unfold maxLen; exact Nat.zero_le _)) rfl) HZ.out.bel (by omega) rfl (by omega) rfl
            | false =>
              obtain ⟨u6, hu6⟩ : ∃ u, hdW (left l at_) [40] = u := ⟨_, rfl⟩
              have HU6 := Lib.hid hu6
              go_wp2_with fail
              refine (specIsH HZ.out.tok hl at_ (by omega) ⟨#[40]⟩ u6 hu6).mono ?_
              rintro e w' ⟨rfl, rfl⟩
              clear hu6
              have HN3 : Hid (isW (kk, tt.data.toList) wTrue = false) := by have h := HU3.out; rw [HX.out] at h; exact h
              have HN4 : Hid (isW (kk, tt.data.toList) wFalse = false) := by have h := HU4.out; rw [HX.out] at h; exact h
              have HN5 : Hid (isW (kk, tt.data.toList) wNull = false) := by have h := HU5.out; rw [HX.out] at h; exact h
              cases u6 with
              | false =>
                have HP : Hid (atomP (f + 1) (left l at_) = none) := by
                  unfold Hid
                  have h6 := HU6.out
                  rw [HX.out] at h6 ⊢
                  rw [atomP, if_neg HK.out.1, if_neg HK.out.2.1, if_neg HK.out.2.2, HN3.out, HN4.out, HN5.out, show isW (kk, tt.data.toList) [40] = false from h6]
                  rfl
                go_wp2_with fail
                refine bodyPost_ret (v := .tuple #[.agg #[.int .i64 0, .string ⟨#[]⟩, .int .i64 0, .slice none 0 0], .int .i64 (-1)]) (by simp [results, Tryz.results91, go_sem, *]) rfl ?_
                rw [HP.out]
                exact AnyR.no HZ.out.bel rfl
              | true =>
                have HP : Hid (atomP (f + 1) (left l at_) = match anyP f 1 (left l (at_ + 1)) with | some (e, y :: r') => if isW y [41] = true then some (e, r') else none | _ => none) := by
                  unfold Hid
                  have h6 := HU6.out
                  rw [HX.out] at h6 ⊢
                  rw [atomP, if_neg HK.out.1, if_neg HK.out.2.1, if_neg HK.out.2.2, HN3.out, HN4.out, HN5.out, show isW (kk, tt.data.toList) [40] = true from h6]
                  rfl
                have IA : Hid (Calls Tryz.prog 62 #[.slice (some ⟨b, off, none⟩) l.length c, .int .i64 ((at_ : Int) + 1), .int .i64 1] w8 (AnyR w8 l (anyP f 1 (left l (at_ + 1))))) := ia 1 (at_ + 1) w8 (Nat.le_refl _) (by omega) HZ.out.tok (by omega) (by have h := hen; rw [HX.out] at h; unfold enough; simp only [List.length_cons] at h; omega)
                go_wp2_with fail
                refine IA.out.mono ?_
                intro x w9 hx
                unfold AnyR at hx
                cases hany : anyP f 1 (left l (at_ + 1)) with
                | none =>
                  rw [hany] at hx
                  obtain ⟨v0, v1, v2, va, vn, vc, rfl, b9⟩ := hx
                  have HQ9 := Lib.hid ((HZ.out.below b9).below ((Below.refl _ _).alloc (Nat.le_refl _) (.cells #[.int .i64 v0, .string v1, .int .i64 v2, .slice va vn vc] 32)))
                  have HPN : Hid (atomP (f + 1) (left l at_) = none) := by unfold Hid; rw [HP.out, hany]
                  clear b9 hany r0 r1 r2 r3 rf k0 k1
                  obtain ⟨r0, r1, r2, r3, rf⟩ := HQ9.out.r.cells
                  go_wp2_with fail
                  refine bodyPost_ret (v := .tuple #[.agg #[.int .i64 0, .string ⟨#[]⟩, .int .i64 0, .slice none 0 0], .int .i64 (-1)]) (by simp [results, Tryz.results91, go_sem, *]) rfl ?_
                  rw [HPN.out]
                  exact AnyR.no HQ9.out.bel rfl
                | some z =>
                  obtain ⟨e, r⟩ := z
                  rw [hany] at hx
                  obtain ⟨ea, ec, m, mi, rfl, rfl, rfl, hm, htr, b9⟩ := hx
                  have hb9 := (Below.refl w9.heap.size w9).alloc (Nat.le_refl _) (.cells #[.int .i64 e.kind, .string e.text, .int .i64 e.num, .slice ea e.kids.length ec] 32)
                  have HQ9 := Lib.hid ((HZ.out.below b9).below hb9)
                  have HT9 := Lib.hid (htr.below hb9)
                  have HN9 := Lib.hid (exRow_new w9 e.kind e.text e.num (.slice ea e.kids.length ec))
                  have hlo8 : Hid (w.heap.size + 1 < w8.heap.size) := by
                    unfold Hid
                    have h := HZ.out.t
                    rcases Nat.lt_or_ge (w.heap.size + 1) w8.heap.size with h' | h'
                    · exact h'
                    · rw [Array.getElem?_eq_none h'] at h; cases h
                  have hw9 : Hid (w8.heap.size ≤ w9.heap.size) := b9.size
                  have HANY := Lib.hid hany
                  have hm0 : (0 : Int) ≤ (m : Int) := by omega
                  have hm1 : ¬ (m : Int) < 0 := by omega
                  obtain ⟨u, hu⟩ : ∃ u, hdW (left l m) [41] = u := ⟨_, rfl⟩
                  have HU := Lib.hid hu
                  clear b9 htr hb9 hany r0 r1 r2 r3 rf k0 k1 hu
                  obtain ⟨r0, r1, r2, r3, rf⟩ := HQ9.out.r.cells
                  obtain ⟨n0, n1', n2', n3', nf⟩ := HN9.out.cells
                  go_wp2_with fail
                  refine (specIsH HQ9.out.tok hl m (by omega) ⟨#[41]⟩ u HU.out).mono ?_
                  rintro e' w' ⟨rfl, rfl⟩
                  cases u with
                  | false =>
                    have HPN : Hid (atomP (f + 1) (left l at_) = none) := by
                      unfold Hid
                      rw [HP.out, HANY.out]
                      have h := HU.out
                      cases hlm : left l m with
                      | nil => rfl
                      | cons y q => rw [hlm] at h; simp only; rw [if_neg (by rw [show isW y [41] = false from h]; decide)]
                    go_wp2_with fail
                    refine bodyPost_ret (v := .tuple #[.agg #[.int .i64 0, .string ⟨#[]⟩, .int .i64 0, .slice none 0 0], .int .i64 (-1)]) (by simp [results, Tryz.results91, go_sem, *]) rfl ?_
                    rw [HPN.out]
                    exact AnyR.no HQ9.out.bel rfl
                  | true =>
                    have hml : m < l.length := by
                      rcases Nat.lt_or_ge m l.length with h | h
                      · exact h
                      · have h2 := HU.out
                        rw [left_end (by omega)] at h2
                        cases h2
                    have HPY : Hid (atomP (f + 1) (left l at_) = some (e, left l (m + 1))) := by
                      unfold Hid
                      rw [HP.out, HANY.out]
                      have h := HU.out
                      rw [left_cons hml] at h ⊢
                      simp only
                      rw [if_pos (show isW _ [41] = true from h)]
                    go_wp2_with fail
                    refine bodyPost_ret (v := .tuple #[.agg #[.int .i64 e.kind, .string e.text, .int .i64 e.num, .slice ea e.kids.length ec], .int .i64 ((m : Int) + 1)]) (by simp [results, Tryz.results91, go_sem, *]) rfl ?_
                    rw [HPY.out]
                    exact AnyR.yes (HT9.out.imp fun q hq _ => by have := hlo8.out; omega) HQ9.out.bel (m := m + 1) (by omega) rfl (mi := (m : Int) + 1) (by omega) rfl
    have HE0 := Lib.hid e0
    have n0 : (kk == 0) = false := by rw [beq_eq_false_iff_ne]; exact e0
    have HK : Hid (¬ kk = 2 ∧ ¬ kk = 3 ∧ ¬ (kk = 1 ∨ (kk = 0 ∧ keptB tt.data.toList = false))) := ⟨e2, e3, fun h => by rcases h with h | h; exact e1 h; exact e0 h.1⟩
    clear e0 e1 e2 e3
    go_wp2_with fail
    generalize (w.alloc (.cells #[.int .i64 0, .string ⟨#[]⟩, .int .i64 0, .slice none 0 0] 32)).alloc (.cells #[.int .i64 kk, .string tt, .int .i64 pp] 36) = W1 at HA HAD k0 k1 r0 r1 r2 r3 rf ⊢
    obtain ⟨r0, r1, r2, r3, rf⟩ := HAD.out.r.cells
    obtain ⟨k0, k1⟩ := HAD.out.cells
    go_quiet (fail)
    have HQ := Lib.hid (HA.out.below (below_drewN (Below.refl _ _) nq))
    clear k0 k1 r0 r1 r2 r3 rf
    generalize W1.drewN nq = w8 at HQ ⊢
    obtain ⟨r0, r1, r2, r3, rf⟩ := HQ.out.r.cells
    obtain ⟨k0, k1⟩ := HQ.out.cells
    obtain ⟨u3, hu3⟩ : ∃ u, hdW (left l at_) wTrue = u := ⟨_, rfl⟩
    have HU3 := Lib.hid hu3
    go_wp2_with fail
    refine (specIsH HQ.out.tok hl at_ (by omega) ⟨#[116, 114, 117, 101]⟩ u3 hu3).mono ?_
    rintro e w' ⟨rfl, rfl⟩
    clear hu3
    cases u3 with
    | true =>
      have HP : Hid (atomP (f + 1) (left l at_) = some (leaf 3 [] 0, left l (at_ + 1))) := by
        unfold Hid
        have h := HU3.out
        rw [HX.out] at h ⊢
        rw [atomP, if_neg HK.out.1, if_neg HK.out.2.1, if_neg HK.out.2.2, if_pos (show isW _ wTrue = true from h)]
      go_wp2_with fail
      refine bodyPost_ret (v := .tuple #[.agg #[.int .i64 3, .string ⟨#[]⟩, .int .i64 0, .slice none 0 0], .int .i64 ((at_ : Int) + 1)]) (by simp [results, Tryz.results91, go_sem, *]) rfl ?_
      rw [HP.out]
      exact AnyR.yes (l := l) (m := at_ + 1) (mi := (at_ : Int) + 1) (e := leaf 3 [] 0) (a := none) (c := 0) (TrQ.leaf (leaf_fit (by unfold i64E; omega) (by unfold i64E; omega) (by unfold maxLen; exact Nat.zero_le _)) rfl) HQ.out.bel (by omega) rfl (by omega) rfl
    | false =>
      obtain ⟨u4, hu4⟩ : ∃ u, hdW (left l at_) wFalse = u := ⟨_, rfl⟩
      have HU4 := Lib.hid hu4
      go_wp2_with fail
      refine (specIsH HQ.out.tok hl at_ (by omega) ⟨#[102, 97, 108, 115, 101]⟩ u4 hu4).mono ?_
      rintro e w' ⟨rfl, rfl⟩
      clear hu4
      cases u4 with
      | true =>
        have HP : Hid (atomP (f + 1) (left l at_) = some (leaf 4 [] 0, left l (at_ + 1))) := by
          unfold Hid
          have h := HU4.out
          rw [HX.out] at h ⊢
          rw [atomP, if_neg HK.out.1, if_neg HK.out.2.1, if_neg HK.out.2.2, if_neg (show ¬ isW _ wTrue = true from fun h => by have h2 := HU3.out; rw [HX.out] at h2; exact absurd h (by rw [show isW _ wTrue = false from h2]; decide)), if_pos (show isW _ wFalse = true from h)]
        go_wp2_with fail
        refine bodyPost_ret (v := .tuple #[.agg #[.int .i64 4, .string ⟨#[]⟩, .int .i64 0, .slice none 0 0], .int .i64 ((at_ : Int) + 1)]) (by simp [results, Tryz.results91, go_sem, *]) rfl ?_
        rw [HP.out]
        exact AnyR.yes (l := l) (m := at_ + 1) (mi := (at_ : Int) + 1) (e := leaf 4 [] 0) (a := none) (c := 0) (TrQ.leaf (leaf_fit (by unfold i64E; omega) (by unfold i64E; omega) (by unfold maxLen; exact Nat.zero_le _)) rfl) HQ.out.bel (by omega) rfl (by omega) rfl
      | false =>
        obtain ⟨u5, hu5⟩ : ∃ u, hdW (left l at_) wNull = u := ⟨_, rfl⟩
        have HU5 := Lib.hid hu5
        go_wp2_with fail
        refine (specIsH HQ.out.tok hl at_ (by omega) ⟨#[110, 117, 108, 108]⟩ u5 hu5).mono ?_
        rintro e w' ⟨rfl, rfl⟩
        clear hu5
        cases u5 with
        | true =>
          have HP : Hid (atomP (f + 1) (left l at_) = some (leaf 5 [] 0, left l (at_ + 1))) := by
            unfold Hid
            have h := HU5.out
            rw [HX.out] at h ⊢
            rw [atomP, if_neg HK.out.1, if_neg HK.out.2.1, if_neg HK.out.2.2, if_neg (show ¬ isW _ wTrue = true from fun h => by have h2 := HU3.out; rw [HX.out] at h2; exact absurd h (by rw [show isW _ wTrue = false from h2]; decide)), if_neg (show ¬ isW _ wFalse = true from fun h => by have h2 := HU4.out; rw [HX.out] at h2; exact absurd h (by rw [show isW _ wFalse = false from h2]; decide)), if_pos (show isW _ wNull = true from h)]
          go_wp2_with fail
          refine bodyPost_ret (v := .tuple #[.agg #[.int .i64 5, .string ⟨#[]⟩, .int .i64 0, .slice none 0 0], .int .i64 ((at_ : Int) + 1)]) (by simp [results, Tryz.results91, go_sem, *]) rfl ?_
          rw [HP.out]
          exact AnyR.yes (l := l) (m := at_ + 1) (mi := (at_ : Int) + 1) (e := leaf 5 [] 0) (a := none) (c := 0) (TrQ.leaf (leaf_fit (by unfold i64E; omega) (by unfold i64E; omega) (by unfold maxLen; exact Nat.zero_le _)) rfl) HQ.out.bel (by omega) rfl (by omega) rfl
        | false =>
          obtain ⟨u6, hu6⟩ : ∃ u, hdW (left l at_) [40] = u := ⟨_, rfl⟩
          have HU6 := Lib.hid hu6
          go_wp2_with fail
          refine (specIsH HQ.out.tok hl at_ (by omega) ⟨#[40]⟩ u6 hu6).mono ?_
          rintro e w' ⟨rfl, rfl⟩
          clear hu6
          have HN3 : Hid (isW (kk, tt.data.toList) wTrue = false) := by have h := HU3.out; rw [HX.out] at h; exact h
          have HN4 : Hid (isW (kk, tt.data.toList) wFalse = false) := by have h := HU4.out; rw [HX.out] at h; exact h
          have HN5 : Hid (isW (kk, tt.data.toList) wNull = false) := by have h := HU5.out; rw [HX.out] at h; exact h
          cases u6 with
          | false =>
            have HP : Hid (atomP (f + 1) (left l at_) = none) := by
              unfold Hid
              have h6 := HU6.out
              rw [HX.out] at h6 ⊢
              rw [atomP, if_neg HK.out.1, if_neg HK.out.2.1, if_neg HK.out.2.2, HN3.out, HN4.out, HN5.out, show isW (kk, tt.data.toList) [40] = false from h6]
              rfl
            go_wp2_with fail
            refine bodyPost_ret (v := .tuple #[.agg #[.int .i64 0, .string ⟨#[]⟩, .int .i64 0, .slice none 0 0], .int .i64 (-1)]) (by simp [results, Tryz.results91, go_sem, *]) rfl ?_
            rw [HP.out]
            exact AnyR.no HQ.out.bel rfl
          | true =>
            have HP : Hid (atomP (f + 1) (left l at_) = match anyP f 1 (left l (at_ + 1)) with | some (e, y :: r') => if isW y [41] = true then some (e, r') else none | _ => none) := by
              unfold Hid
              have h6 := HU6.out
              rw [HX.out] at h6 ⊢
              rw [atomP, if_neg HK.out.1, if_neg HK.out.2.1, if_neg HK.out.2.2, HN3.out, HN4.out, HN5.out, show isW (kk, tt.data.toList) [40] = true from h6]
              rfl
            have IA : Hid (Calls Tryz.prog 62 #[.slice (some ⟨b, off, none⟩) l.length c, .int .i64 ((at_ : Int) + 1), .int .i64 1] w8 (AnyR w8 l (anyP f 1 (left l (at_ + 1))))) := ia 1 (at_ + 1) w8 (Nat.le_refl _) (by omega) HQ.out.tok (by omega) (by have h := hen; rw [HX.out] at h; unfold enough; simp only [List.length_cons] at h; omega)
            go_wp2_with fail
            refine IA.out.mono ?_
            intro x w9 hx
            unfold AnyR at hx
            cases hany : anyP f 1 (left l (at_ + 1)) with
            | none =>
              rw [hany] at hx
              obtain ⟨v0, v1, v2, va, vn, vc, rfl, b9⟩ := hx
              have HQ9 := Lib.hid ((HQ.out.below b9).below ((Below.refl _ _).alloc (Nat.le_refl _) (.cells #[.int .i64 v0, .string v1, .int .i64 v2, .slice va vn vc] 32)))
              have HPN : Hid (atomP (f + 1) (left l at_) = none) := by unfold Hid; rw [HP.out, hany]
              clear b9 hany r0 r1 r2 r3 rf k0 k1
              obtain ⟨r0, r1, r2, r3, rf⟩ := HQ9.out.r.cells
              go_wp2_with fail
              refine bodyPost_ret (v := .tuple #[.agg #[.int .i64 0, .string ⟨#[]⟩, .int .i64 0, .slice none 0 0], .int .i64 (-1)]) (by simp [results, Tryz.results91, go_sem, *]) rfl ?_
              rw [HPN.out]
              exact AnyR.no HQ9.out.bel rfl
            | some z =>
              obtain ⟨e, r⟩ := z
              rw [hany] at hx
              obtain ⟨ea, ec, m, mi, rfl, rfl, rfl, hm, htr, b9⟩ := hx
              have hb9 := (Below.refl w9.heap.size w9).alloc (Nat.le_refl _) (.cells #[.int .i64 e.kind, .string e.text, .int .i64 e.num, .slice ea e.kids.length ec] 32)
              have HQ9 := Lib.hid ((HQ.out.below b9).below hb9)
              have HT9 := Lib.hid (htr.below hb9)
              have HN9 := Lib.hid (exRow_new w9 e.kind e.text e.num (.slice ea e.kids.length ec))
              have hlo8 : Hid (w.heap.size + 1 < w8.heap.size) := by
                unfold Hid
                have h := HQ.out.t
                rcases Nat.lt_or_ge (w.heap.size + 1) w8.heap.size with h' | h'
                · exact h'
                · rw [Array.getElem?_eq_none h'] at h; cases h
              have hw9 : Hid (w8.heap.size ≤ w9.heap.size) := b9.size
              have HANY := Lib.hid hany
              have hm0 : (0 : Int) ≤ (m : Int) := by omega
              have hm1 : ¬ (m : Int) < 0 := by omega
              obtain ⟨u, hu⟩ : ∃ u, hdW (left l m) [41] = u := ⟨_, rfl⟩
              have HU := Lib.hid hu
              clear b9 htr hb9 hany r0 r1 r2 r3 rf k0 k1 hu
              obtain ⟨r0, r1, r2, r3, rf⟩ := HQ9.out.r.cells
              obtain ⟨n0, n1', n2', n3', nf⟩ := HN9.out.cells
              go_wp2_with fail
              refine (specIsH HQ9.out.tok hl m (by omega) ⟨#[41]⟩ u HU.out).mono ?_
              rintro e' w' ⟨rfl, rfl⟩
              cases u with
              | false =>
                have HPN : Hid (atomP (f + 1) (left l at_) = none) := by
                  unfold Hid
                  rw [HP.out, HANY.out]
                  have h := HU.out
                  cases hlm : left l m with
                  | nil => rfl
                  | cons y q => rw [hlm] at h; simp only; rw [if_neg (by rw [show isW y [41] = false from h]; decide)]
                go_wp2_with fail
                refine bodyPost_ret (v := .tuple #[.agg #[.int .i64 0, .string ⟨#[]⟩, .int .i64 0, .slice none 0 0], .int .i64 (-1)]) (by simp [results, Tryz.results91, go_sem, *]) rfl ?_
                rw [HPN.out]
                exact AnyR.no HQ9.out.bel rfl
              | true =>
                have hml : m < l.length := by
                  rcases Nat.lt_or_ge m l.length with h | h
                  · exact h
                  · have h2 := HU.out
                    rw [left_end (by omega)] at h2
                    cases h2
                have HPY : Hid (atomP (f + 1) (left l at_) = some (e, left l (m + 1))) := by
                  unfold Hid
                  rw [HP.out, HANY.out]
                  have h := HU.out
                  rw [left_cons hml] at h ⊢
                  simp only
                  rw [if_pos (show isW _ [41] = true from h)]
                go_wp2_with fail
                refine bodyPost_ret (v := .tuple #[.agg #[.int .i64 e.kind, .string e.text, .int .i64 e.num, .slice ea e.kids.length ec], .int .i64 ((m : Int) + 1)]) (by simp [results, Tryz.results91, go_sem, *]) rfl ?_
                rw [HPY.out]
                exact AnyR.yes (HT9.out.imp fun q hq _ => by have := hlo8.out; omega) HQ9.out.bel (m := m + 1) (by omega) rfl (mi := (m : Int) + 1) (by omega) rfl
  · have HIN : Hid (inI (at_ : Int) 0 ((l.length : Int) - 1) = false) := by unfold Hid inI; rw [decide_eq_false (show ¬ (at_ : Int) ≤ (l.length : Int) - 1 by omega)]; simp
    have HP : Hid (atomP (f + 1) (left l at_) = none) := by unfold Hid; rw [left_end hlt, atomP]
    have HR0 := Lib.hid (exRow_new w 0 ⟨#[]⟩ 0 (.slice none 0 0))
    rw [HP.out]
    clear ht
    go_enter Tryz.func91, Tryz.ntmps91
    go_wp2_with fail
    refine (specInIs _ _ _ _ false HIN.out).mono ?_
    rintro e w' ⟨rfl, rfl⟩
    obtain ⟨r0, r1, r2, r3, rf⟩ := HR0.out.cells
    go_wp2_with fail
    refine bodyPost_ret (v := .tuple #[.agg #[.int .i64 0, .string ⟨#[]⟩, .int .i64 0, .slice none 0 0], .int .i64 (-1)]) (by simp [results, Tryz.results91, go_sem, *]) rfl ?_
    exact ⟨0, ⟨#[]⟩, 0, none, 0, 0, rfl, HB0.out⟩

end Go.Proofs.YtgnillmhpockkaaGreatDoor
