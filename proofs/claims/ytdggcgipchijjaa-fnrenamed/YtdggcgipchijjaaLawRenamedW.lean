/- The walk of FnRenamed. -/
import Derived.Test.YtdggcgipchijjaaRenW
import Derived.Test.YtdggcgipchijjaaRenS
import Derived.Test.YtdggcgipchijjaaRenLaws
import Derived.Test.YtdggcgipchijjaaDrawRen
import Derived.Test.YtdggcgipchijjaaSameEx
import Derived.Test.YtdggcgipchijjaaImplNodes
import Derived.Test.YtdggcgipchijjaaColsI
import Derived.Test.YtdggcgipchijjaaHas
import Derived.Test.YtdggcgipchijjaaOpenBytes
import Derived.Test.YtdggcgipchijjaaExBoxes
import Derived.Test.YtdggcgipchijjaaLawBase
namespace Go.Proofs.Ytdggcgipchijjaa
open Go.ChangeShapes Go.WideShapes Go.ChangeAt Go.RowKit

theorem sameExD (e : Ex) (a a' : Option Addr) (c c' d d' : Nat) (w : World) (h : KidsAt w d a c e.kids) (h' : KidsAt w d' a' c' e.kids) :
    Calls Try.prog 16 #[.agg #[.int .i64 e.kind, .string e.text, .int .i64 e.num, .slice a e.kids.length c], .agg #[.int .i64 e.kind, .string e.text, .int .i64 e.num, .slice a' e.kids.length c']] w fun x w' => x = .returned (.bool true) ∧ Below w.heap.size w w' :=
  sameEx (max d d') e a a' c c' w (h.mono (Nat.le_max_left ..)) (h'.mono (Nat.le_max_right ..))

/-- A tree, read. -/
def GotE (w : World) (e : Ex) (x : Ending) (w' : World) : Prop :=
  ∃ a c d, x = .returned (.agg #[.int .i64 e.kind, .string e.text, .int .i64 e.num, .slice a e.kids.length c]) ∧ KidsAt w' d a c e.kids ∧ Below w.heap.size w w'

theorem specRenK (f t : ByteArray) (ht : t.size ≤ 1048576) (e : Ex) (a : Option Addr) (c d : Nat) (w : World) (hfit : e.fit) (hwt : e.wt ≤ 1048576) (hk : KidsAt w d a c e.kids) :
    Calls Try.prog 17 #[.agg #[.int .i64 e.kind, .string e.text, .int .i64 e.num, .slice a e.kids.length c], .string f, .string t] w (GotE w (renE f t e)) := by
  refine (specRen f t ht d e a c w hfit hwt hk).mono ?_
  rintro x w' ⟨es, aw, cw, rfl, he, hrow, hb⟩
  obtain ⟨dd, hkk⟩ := hrow.kids
  have hl : es.length = (renE f t e).kids.length := by rw [← he]; simp
  rw [he] at hkk
  exact ⟨aw, cw, dd, by rw [hl], hkk.at, hb⟩

theorem implRenK (f t : ByteArray) (ht : t.size ≤ 1048576) (e E : Ex) (hE : renE f t e = E) (a : Option Addr) (c d : Nat) (w : World) (hfit : e.fit) (hwt : e.wt ≤ 1048576) (hk : KidsAt w d a c e.kids) :
    Calls Try.prog 15 #[.agg #[.int .i64 e.kind, .string e.text, .int .i64 e.num, .slice a e.kids.length c], .string f, .string t] w (GotE w E) := by
  subst hE
  refine (implRenamed f t e a c d w hfit hk hwt ht).mono ?_
  rintro x w' ⟨ar, cr, dr, bs, rfl, hko, _, _, hb⟩
  exact ⟨ar, cr, dr, rfl, hko.at, hb⟩

/-- Two boxes: the drawn expression, and a renamed one. -/
structure LR (w : World) (X Y : Nat) (e F : Ex) (a' ag : Option Addr) (c' cg d dg : Nat) (p : World) : Prop where
  x : Box4 p X e a' c'
  kx : KidsAt p d a' c' e.kids
  y : Box4 p Y F ag cg
  ky : KidsAt p dg ag cg F.kids
  bel : Below w.heap.size w p

theorem LR.below {w : World} {X Y : Nat} {e F : Ex} {a' ag : Option Addr} {c' cg d dg : Nat} {p q : World} (h : LR w X Y e F a' ag c' cg d dg p) (hb : Below p.heap.size p q) : LR w X Y e F a' ag c' cg d dg q :=
  ⟨h.x.below hb, h.kx.below hb, h.y.below hb, h.ky.below hb, h.bel.trans (hb.mono h.bel.size)⟩

/-- Their cells. -/
def CellsL (X Y : Nat) (e F : Ex) (a' ag : Option Addr) (c' cg : Nat) (p : World) : Prop :=
  (p.cell? ⟨X, 0, none⟩ = some (.int .i64 e.kind) ∧ p.cell? ⟨X, 1, none⟩ = some (.string e.text) ∧ p.cell? ⟨X, 2, none⟩ = some (.int .i64 e.num) ∧ p.cell? ⟨X, 3, none⟩ = some (.slice a' e.kids.length c')) ∧
  (p.cell? ⟨Y, 0, none⟩ = some (.int .i64 F.kind) ∧ p.cell? ⟨Y, 1, none⟩ = some (.string F.text) ∧ p.cell? ⟨Y, 2, none⟩ = some (.int .i64 F.num) ∧ p.cell? ⟨Y, 3, none⟩ = some (.slice ag F.kids.length cg))

theorem LR.cells {w : World} {X Y : Nat} {e F : Ex} {a' ag : Option Addr} {c' cg d dg : Nat} {p : World} (h : LR w X Y e F a' ag c' cg d dg p) : CellsL X Y e F a' ag c' cg p := ⟨h.x.2, h.y.2⟩

theorem hasB_not {xs : List ByteArray} {s : ByteArray} (h : s ∉ xs) : hasB xs s = false := by
  unfold hasB
  rw [List.any_eq_false]
  intro x hx he
  exact h (by rw [← ba_eq he]; exact hx)

set_option maxRecDepth 100000 in
set_option maxHeartbeats 4000000 in
theorem walkFnRenamed (a : Option Addr) (c : Nat) (l : List UInt8) (w : World) (hb : Bytes w a c l) :
    Calls Try.prog 4 #[.slice a l.length c] w fun x w' => x = .returned (.bool true) ∧ Below w.heap.size w w' := by
  by_cases hbig : 1048576 < l.length
  · have hd : decide (1048576 < l.length) = true := decide_eq_true hbig
    go_enter Try.func4, Try.ntmps4
    go_wp2_with fail
    refine (lawsBig a c l.length w).mono ?_
    rintro e w1 ⟨rfl, rfl⟩
    rw [hd]
    go_wp2_with fail
    go_ret
    exact ⟨rfl, Below.refl _ _⟩
  · have hd : decide (1048576 < l.length) = false := decide_eq_false hbig
    have HBY := Lib.hid hb
    clear hb
    go_enter Try.func4, Try.ntmps4
    go_wp2_with fail
    refine (lawsBig a c l.length w).mono ?_
    rintro e w1 ⟨rfl, rfl⟩
    rw [hd]
    go_wp2_with fail
    refine (specDrawRenamed a c l w HBY.out (by omega)).mono ?_
    rintro x w1 ⟨e, a', c', d, f, t, rfl, hsm, hk, hfz, htz, hbel⟩
    have hfit := hsm.1
    have hwz : e.wz ≤ 4096 := by have h1 := hsm.2.1; have h2 := hsm.2.2; omega
    have hwt : e.wt ≤ 1048576 := by have := wt_wz e; omega
    have hwt2 : e.wt ≤ 4096 := by have := wt_wz e; omega
    have hnd : e.nodes ≤ 64 := hsm.2.2
    have ht : t.size ≤ 1048576 := by have := tz_le t; omega
    have hfs : f.size ≤ 1048576 := by have := tz_le f; omega
    have hff : Hid (f ≠ freshT) := tz_fresh (by omega)
    have HBX := Lib.hid (box4_new w1 26 e a' c')
    have hb1 : Below w1.heap.size w1 (w1.alloc (.cells #[.int .i64 e.kind, .string e.text, .int .i64 e.num, .slice a' e.kids.length c'] 26)) := (Below.refl _ _).alloc (Nat.le_refl _) _
    have HK1 := Lib.hid (hk.below hb1)
    have HB1 := Lib.hid (hbel.trans (hb1.mono hbel.size))
    clear hk hbel hsm hb1
    go_wp2_with fail
    generalize w1.alloc (.cells #[.int .i64 e.kind, .string e.text, .int .i64 e.num, .slice a' e.kids.length c'] 26) = W1 at *
    generalize w1.heap.size = X at *
    refine (implRenK f t ht e _ rfl a' c' d W1 hfit hwt HK1.out).mono ?_
    obtain ⟨F, hF⟩ : ∃ F, F = renE f t e := ⟨_, rfl⟩
    rw [← hF]
    rintro x w2 ⟨ag, cg, dg, rfl, hkg, hb2⟩
    have hFf : F.fit := by rw [hF]; exact renE_fit hfit (by unfold maxLen; omega)
    have hFn : F.nodes = e.nodes := by rw [hF]; exact renE_nodesR f t e
    have HF := Lib.hid hF
    have hbY : Below w2.heap.size w2 (w2.alloc (.cells #[.int .i64 F.kind, .string F.text, .int .i64 F.num, .slice ag F.kids.length cg] 26)) := (Below.refl _ _).alloc (Nat.le_refl _) _
    have L2 : Hid (LR w X w2.heap.size e F a' ag c' cg d dg (w2.alloc (.cells #[.int .i64 F.kind, .string F.text, .int .i64 F.num, .slice ag F.kids.length cg] 26))) :=
      ⟨(HBX.out.below hb2).below hbY, (HK1.out.below hb2).below hbY, box4_new w2 26 F ag cg, hkg.below hbY, (HB1.out.trans (hb2.mono HB1.out.size)).trans (hbY.mono (HB1.out.trans (hb2.mono HB1.out.size)).size)⟩
    clear hbY hkg hb2 HBX HK1 HB1 hF
    go_wp2_with fail
    generalize w2.alloc (.cells #[.int .i64 F.kind, .string F.text, .int .i64 F.num, .slice ag F.kids.length cg] 26) = W2 at *
    generalize w2.heap.size = Y at *
    have L2d := Lib.hid (L2.out.below (below_drewE (Below.refl _ _)))
    obtain ⟨N, hN⟩ : ∃ N : Int, N = (e.nodes : Int) := ⟨_, rfl⟩
    have hNN : (N != N) = false := by simp
    have hNod : Hid (∀ (E' : Ex) (a1 : Option Addr) (c1 : Nat) (p : World), LR w X Y e F a' ag c' cg d dg p → ((E' = F ∧ a1 = ag ∧ c1 = cg) ∨ (E' = e ∧ a1 = a' ∧ c1 = c')) → Calls Try.prog 18 #[.agg #[.int .i64 E'.kind, .string E'.text, .int .i64 E'.num, .slice a1 E'.kids.length c1]] p fun x w' => x = .returned (.int .i64 N) ∧ Below p.heap.size p w') := by
      intro E' a1 c1 p hp hc
      rcases hc with ⟨rfl, rfl, rfl⟩ | ⟨rfl, rfl, rfl⟩
      · have h := implNodes E' a1 c1 dg p hFf hp.ky (by omega)
        rw [hFn, ← hN] at h
        exact h
      · have h := implNodes E' a1 c1 d p hfit hp.kx (by omega)
        rw [← hN] at h
        exact h
    have hst : Hid (∀ p q : World, (CellsL X Y e F a' ag c' cg p ∧ Hid (LR w X Y e F a' ag c' cg d dg p)) → Below p.heap.size p q → (CellsL X Y e F a' ag c' cg q ∧ Hid (LR w X Y e F a' ag c' cg d dg q))) := fun p q h hb => ⟨(h.2.out.below hb).cells, h.2.out.below hb⟩
    unfold CellsL at hst
    clear hN
    go_region_held3 (fun p => ((p.cell? ⟨X, 0, none⟩ = some (.int .i64 e.kind) ∧ p.cell? ⟨X, 1, none⟩ = some (.string e.text) ∧ p.cell? ⟨X, 2, none⟩ = some (.int .i64 e.num) ∧ p.cell? ⟨X, 3, none⟩ = some (.slice a' e.kids.length c')) ∧ (p.cell? ⟨Y, 0, none⟩ = some (.int .i64 F.kind) ∧ p.cell? ⟨Y, 1, none⟩ = some (.string F.text) ∧ p.cell? ⟨Y, 2, none⟩ = some (.int .i64 F.num) ∧ p.cell? ⟨Y, 3, none⟩ = some (.slice ag F.kids.length cg))) ∧ Hid (LR w X Y e F a' ag c' cg d dg p)) (first | assumption | exact ⟨L2d.out.cells, L2d.out⟩)
      (first
        | (go_at_call 17; refine (specRenK f t ht e a' c' d _ hfit hwt (And.right (by assumption : _ ∧ Hid (LR w X Y e F a' ag c' cg d dg _))).out.kx).mono ?_; rw [← HF.out]; rintro x wq ⟨a6, c6, d6, rfl, k6, bq⟩; have hq := hst.out _ _ (by assumption) bq; have K6 := Lib.hid k6; clear k6 bq)
        | (go_at_call 16; refine (sameExD F ag a6 cg c6 dg d6 _ hq.2.out.ky K6.out).mono ?_; rintro x wz ⟨rfl, bz⟩; have hz := hst.out _ _ (by assumption) bz; clear bz)
        | (go_at_call 18; refine (hNod.out _ _ _ _ (And.right (by assumption : _ ∧ Hid (LR w X Y e F a' ag c' cg d dg _))).out (by first | exact .inl ⟨rfl, rfl, rfl⟩ | exact .inr ⟨rfl, rfl, rfl⟩)).mono ?_; rintro x wn ⟨rfl, bn⟩; have hn := hst.out _ _ (by assumption) bn; clear bn))
    have L5 := Lib.hid hn.2.out
    clear hn hz hq K6 hst hNod L2 L2d hNN
    generalize wn = w5 at *
    obtain ⟨_, x0, x1, x2, x3⟩ := L5.out.x
    obtain ⟨G, hG⟩ : ∃ G, G = renE f freshT e := ⟨_, rfl⟩
    have hGf : G.fit := by rw [hG]; exact renE_fit hfit (by unfold maxLen freshT; decide)
    have hGw : G.wt ≤ 1048576 := by
      have h1 := ren_wt f freshT 9 (by decide) e
      rw [← hG] at h1
      omega
    have hcon : Hid (∀ fr, fr = freshT → Calls Try.prog 15 #[.agg #[.int .i64 e.kind, .string e.text, .int .i64 e.num, .slice a' e.kids.length c'], .string f, .string fr] w5 (GotE w5 G)) := fun fr h => by
      subst h
      exact implRenK f freshT (by decide) e G hG.symm a' c' d w5 hfit hwt L5.out.kx
    have HBK : Hid (renE freshT f G = e) := by unfold Hid; rw [hG]; exact ren_back f e (by omega)
    have HGO : Hid (hasB G.ucols f = false) := by
      refine hasB_not fun hm => ?_
      have := ((ucols_facts G).2.1 f).1 hm
      rw [hG] at this
      exact ren_gone f hff.out e this
    clear hG
    go_wp2_with fail
    refine (hcon.out _ rfl).mono ?_
    rintro x w6 ⟨aG, cG, dG, rfl, kG, b6⟩
    have hbZ : Below w6.heap.size w6 (w6.alloc (.cells #[.int .i64 G.kind, .string G.text, .int .i64 G.num, .slice aG G.kids.length cG] 26)) := (Below.refl _ _).alloc (Nat.le_refl _) _
    have L6 : Hid (LR w X w6.heap.size e G a' aG c' cG d dG (w6.alloc (.cells #[.int .i64 G.kind, .string G.text, .int .i64 G.num, .slice aG G.kids.length cG] 26))) := by
      have h := L5.out
      have hbb := h.bel.trans (b6.mono h.bel.size)
      exact ⟨(h.x.below b6).below hbZ, (h.kx.below b6).below hbZ, box4_new w6 26 G aG cG, kG.below hbZ, hbb.trans (hbZ.mono hbb.size)⟩
    clear hbZ kG b6 L5 hcon x0 x1 x2 x3
    go_wp2_with fail
    generalize w6.alloc (.cells #[.int .i64 G.kind, .string G.text, .int .i64 G.num, .slice aG G.kids.length cG] 26) = W6 at *
    generalize w6.heap.size = Z at *
    have L6d := Lib.hid (L6.out.below (below_drewE (Below.refl _ _)))
    have hszs : Hid (∀ s ∈ G.ucols, s.size ≤ maxLen) := fun s hs => by have := ucols_wt G s hs; unfold maxLen; omega
    have hRen : Hid (∀ (E' : Ex) (a1 : Option Addr) (c1 : Nat) (f' t' : ByteArray) (p : World), LR w X Z e G a' aG c' cG d dG p → ((E' = G ∧ a1 = aG ∧ c1 = cG ∧ f' = freshT ∧ t' = f) ∨ (E' = e ∧ a1 = a' ∧ c1 = c' ∧ f' = f ∧ t' = f)) → Calls Try.prog 15 #[.agg #[.int .i64 E'.kind, .string E'.text, .int .i64 E'.num, .slice a1 E'.kids.length c1], .string f', .string t'] p (GotE p e)) := by
      intro E' a1 c1 f' t' p hp hc
      rcases hc with ⟨rfl, rfl, rfl, rfl, rfl⟩ | ⟨rfl, rfl, rfl, rfl, h⟩
      · exact implRenK freshT t' hfs E' e HBK.out a1 c1 dG p hGf hGw hp.ky
      · subst h
        exact implRenK t' t' hfs E' E' (ren_same t' E') a1 c1 d p hfit hwt hp.kx
    have hHas : Hid (∀ (aC : Option Addr) (cC : Nat) (p : World), Strs p aC cC G.ucols → Calls Try.prog 19 #[.slice aC G.ucols.length cC, .string f] p (Quiet p (.bool false))) := fun aC cC p hp => Quiet.val (specHas aC cC G.ucols f p hp) (congrArg Value.bool HGO.out)
    have hst : Hid (∀ p q : World, (CellsL X Z e G a' aG c' cG p ∧ Hid (LR w X Z e G a' aG c' cG d dG p)) → Below p.heap.size p q → (CellsL X Z e G a' aG c' cG q ∧ Hid (LR w X Z e G a' aG c' cG d dG q))) := fun p q h hb => ⟨(h.2.out.below hb).cells, h.2.out.below hb⟩
    unfold CellsL at hst
    go_region_held3 (fun p => ((p.cell? ⟨X, 0, none⟩ = some (.int .i64 e.kind) ∧ p.cell? ⟨X, 1, none⟩ = some (.string e.text) ∧ p.cell? ⟨X, 2, none⟩ = some (.int .i64 e.num) ∧ p.cell? ⟨X, 3, none⟩ = some (.slice a' e.kids.length c')) ∧ (p.cell? ⟨Z, 0, none⟩ = some (.int .i64 G.kind) ∧ p.cell? ⟨Z, 1, none⟩ = some (.string G.text) ∧ p.cell? ⟨Z, 2, none⟩ = some (.int .i64 G.num) ∧ p.cell? ⟨Z, 3, none⟩ = some (.slice aG G.kids.length cG))) ∧ Hid (LR w X Z e G a' aG c' cG d dG p)) (first | assumption | exact ⟨L6d.out.cells, L6d.out⟩)
      (first
        | (go_at_call 15; refine (hRen.out _ _ _ _ _ _ (And.right (by assumption : _ ∧ Hid (LR w X Z e G a' aG c' cG d dG _))).out (by first | exact .inl ⟨rfl, rfl, rfl, rfl, rfl⟩ | exact .inr ⟨rfl, rfl, rfl, rfl, rfl⟩)).mono ?_; rintro x wq ⟨a6, c6, d6, rfl, k6, bq⟩; have hq := hst.out _ _ (by assumption) bq; have K6 := Lib.hid k6; clear k6 bq)
        | (go_at_call 16; refine (sameExD e a6 a' c6 c' d6 d _ K6.out hq.2.out.kx).mono ?_; rintro x wz ⟨rfl, bz⟩; have hz := hst.out _ _ (by assumption) bz; clear bz)
        | (go_at_call 9; refine (implCols G aG cG dG _ hGf (And.right (by assumption : _ ∧ Hid (LR w X Z e G a' aG c' cG d dG _))).out.ky hGw).mono ?_; rintro x wc ⟨aC, cC, rfl, ownC, bc⟩; have hc2 := hst.out _ _ (by assumption) bc; have KC := Lib.hid (ownC.strs hszs.out); clear ownC bc)
        | (go_at_call 19; refine (hHas.out aC cC _ KC.out).mono ?_; rintro x wh ⟨rfl, nh, hwh⟩; have hh := hst.out _ wh (by assumption) (by rw [hwh]; exact below_drewN (Below.refl _ _) nh); clear hwh))
    have L9 := Lib.hid hz.2.out.bel
    go_wp2_with fail
    go_ret
    exact ⟨rfl, L9.out⟩

end Go.Proofs.Ytdggcgipchijjaa
