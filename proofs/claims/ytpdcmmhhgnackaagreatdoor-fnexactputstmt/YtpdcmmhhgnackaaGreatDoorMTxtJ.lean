/- impl.exprText: one kid, two kids; impl.PutExpr. -/
/- impl.TypeText. -/
import Derived.Test.YtpdcmmhhgnackaaGreatDoorMTxtI
import Derived.Test.YtpdcmmhhgnackaaGreatDoorMOkW
import Derived.Test.YtpdcmmhhgnackaaGreatDoorMTypeText
namespace Go.Proofs.YtpdcmmhhgnackaaGreatDoor
open Go.RowKit

set_option maxRecDepth 100000 in
set_option maxHeartbeats 4000000 in
theorem txtNot (d : Nat) (ih : TxtP d) (t : ByteArray) (n : Int) (x : Ex) (a : Option Addr) (c : Nat) (w : World) (hT : Tabs w) (hs : shapeE x = true) (hn : x.nodes ≤ 39) (hx : KidsAt w (d + 1) a c [x]) :
    Calls Tryz.prog 88 #[.agg #[.int .i64 6, .string t, .int .i64 n, .slice a 1 c]] w fun z w' => z = .returned (.string (tE (.mk 6 t n [x]) 1)) ∧ Below w.heap.size w w' := by
  have HT := Lib.hid (fun w' hb => hT.below (w' := w') (B := w.heap.size) hb hT.big)
  have HBX := Lib.hid (fun T T2 => boxF_new w 6 t n a 1 c 1 3 0 (txt wNot) T T2)
  obtain ⟨g0, g1, g2, g3⟩ := forms_alloc hT 6 (by omega) (.cells #[.int .i64 6, .string t, .int .i64 n, .slice a 1 c] 66)
  change _ = some (Value.int .i64 1) at g0; change _ = some (Value.int .i64 3) at g1; change _ = some (Value.int .i64 0) at g2; change _ = some (Value.string (txt wNot)) at g3
  have HK := Lib.hid (fun w' hb => hx.below (w' := w') hb)
  clear hx hT
  have l1 : (ByteArray.mk #[110, 111, 116, 32]).size = 4 := rfl
  obtain ⟨s, hs1⟩ : ∃ s, tE x (3 : Int).toNat = s := ⟨_, rfl⟩
  have hsz : s.size ≤ 8400 := by rw [← hs1]; exact tE_size hs (by omega)
  have HE : Hid (tE (.mk 6 t n [x]) 1 = (ByteArray.mk #[110, 111, 116, 32]) ++ s) := by unfold Hid; rw [tE_not, ← hs1]; rfl
  have HS := Lib.hid hs1
  clear hs1
  have ad0 : ∀ w, (Op.stringOp .add (ByteArray.mk #[110, 111, 116, 32]) s).run Tryz.prog w = .ok (.string ((ByteArray.mk #[110, 111, 116, 32]) ++ s)) w := fun w => run_string_add_sum w _ _ (by omega)
  obtain ⟨b, off, rfl, hbl, d0, d1, d2, hfit, a', c', d3, hkid⟩ := (HK.out ((w.alloc (.cells #[.int .i64 6, .string t, .int .i64 n, .slice a 1 c] 66)).alloc (.cells #[.int .i64 1, .int .i64 3, .int .i64 0, .string (txt wNot)] 144)) (HBX.out _ _).bel).spot (i := 0) (by simp)
  simp only [List.getElem_cons_zero, Nat.zero_mul, Nat.add_zero] at d0 d1 d2 d3 hkid hfit
  have HX := Lib.hid hkid
  clear hkid
  go_enter Tryz.func88, Tryz.ntmps88
  go_wp2_with fail
  refine (opText d ih x a' c' 3 _ (HT.out _ (HBX.out _ _).bel) hs (by omega) (by omega) HX.out s HS.out).mono ?_
  rintro z w2 ⟨rfl, hb2⟩
  have B2 := Lib.hid ((HBX.out _ _).below hb2).bel
  clear hb2 d0 d1 d2 d3 g0 g1 g2 g3
  go_wp2_with fail
  go_ret
  exact ⟨by rw [HE.out]; rfl, B2.out⟩

/-- The argument's box, its form's, and the kids, cell by cell. -/
structure FormK (w : World) (k : Int) (f0 f1 f2 : Int) (f3 : ByteArray) (bb off c : Nat) (l : Nat) (x y : Ex) (ax ay : Option Addr) (cx cy d : Nat) (w' : World) : Prop where
  lt : w.heap.size + 1 < w'.heap.size
  lb : bb < w'.heap.size
  k3 : w'.cell? ⟨w.heap.size, 3, none⟩ = some (.slice (some ⟨bb, off, none⟩) l c)
  g0 : w'.cell? ⟨w.heap.size + 1, 0, none⟩ = some (.int .i64 f0)
  g1 : w'.cell? ⟨w.heap.size + 1, 1, none⟩ = some (.int .i64 f1)
  g2 : w'.cell? ⟨w.heap.size + 1, 2, none⟩ = some (.int .i64 f2)
  g3 : w'.cell? ⟨w.heap.size + 1, 3, none⟩ = some (.string f3)
  x0 : w'.cell? ⟨bb, off, none⟩ = some (.int .i64 x.kind)
  x1 : w'.cell? ⟨bb, off + 1, none⟩ = some (.string x.text)
  x2 : w'.cell? ⟨bb, off + 2, none⟩ = some (.int .i64 x.num)
  x3 : w'.cell? ⟨bb, off + 3, none⟩ = some (.slice ax x.kids.length cx)
  y0 : l = 2 → w'.cell? ⟨bb, off + 4, none⟩ = some (.int .i64 y.kind)
  y1 : l = 2 → w'.cell? ⟨bb, off + 4 + 1, none⟩ = some (.string y.text)
  y2 : l = 2 → w'.cell? ⟨bb, off + 4 + 2, none⟩ = some (.int .i64 y.num)
  y3 : l = 2 → w'.cell? ⟨bb, off + 4 + 3, none⟩ = some (.slice ay y.kids.length cy)
  kx : KidsAt w' d ax cx x.kids
  ky : l = 2 → KidsAt w' d ay cy y.kids
  tab : Tabs w'
  bel : Below w.heap.size w w'

theorem FormK.below {w wa wb : World} {k f0 f1 f2 : Int} {f3 : ByteArray} {bb off c l : Nat} {x y : Ex} {ax ay : Option Addr} {cx cy d : Nat} (h : FormK w k f0 f1 f2 f3 bb off c l x y ax ay cx cy d wa) (hb : Below wa.heap.size wa wb) : FormK w k f0 f1 f2 f3 bb off c l x y ax ay cx cy d wb := by
  have e0 := fun o => hb.cell (p := ⟨w.heap.size, o, none⟩) (by have := h.lt; simp only; omega)
  have e1 := fun o => hb.cell (p := ⟨w.heap.size + 1, o, none⟩) h.lt
  have e2 := fun o => hb.cell (p := ⟨bb, o, none⟩) h.lb
  exact ⟨Nat.lt_of_lt_of_le h.lt hb.size, Nat.lt_of_lt_of_le h.lb hb.size, (e0 _).trans h.k3, (e1 _).trans h.g0, (e1 _).trans h.g1, (e1 _).trans h.g2, (e1 _).trans h.g3, (e2 _).trans h.x0, (e2 _).trans h.x1, (e2 _).trans h.x2, (e2 _).trans h.x3,
    fun q => (e2 _).trans (h.y0 q), fun q => (e2 _).trans (h.y1 q), fun q => (e2 _).trans (h.y2 q), fun q => (e2 _).trans (h.y3 q), h.kx.below hb, fun q => (h.ky q).below hb, h.tab.below hb h.tab.big, h.bel.trans (hb.mono h.bel.size)⟩

theorem FormK.drew {w wa : World} {k f0 f1 f2 : Int} {f3 : ByteArray} {bb off c l : Nat} {x y : Ex} {ax ay : Option Addr} {cx cy d : Nat} (h : FormK w k f0 f1 f2 f3 bb off c l x y ax ay cx cy d wa) : FormK w k f0 f1 f2 f3 bb off c l x y ax ay cx cy d wa.drew := h.below (below_drewE (Below.refl _ _))

set_option maxRecDepth 100000 in
set_option maxHeartbeats 4000000 in
theorem txtNull (d : Nat) (ih : TxtP d) (t : ByteArray) (n : Int) (x : Ex) (a : Option Addr) (c : Nat) (w : World) (hT : Tabs w) (hs : shapeE x = true) (hn : x.nodes ≤ 39) (hx : KidsAt w (d + 1) a c [x]) :
    Calls Tryz.prog 88 #[.agg #[.int .i64 7, .string t, .int .i64 n, .slice a 1 c]] w fun z w' => z = .returned (.string (tE (.mk 7 t n [x]) 1)) ∧ Below w.heap.size w w' := by
  have HT := Lib.hid (fun w' hb => hT.below (w' := w') (B := w.heap.size) hb hT.big)
  obtain ⟨st, hst⟩ : ∃ st : Int, st = 4 := ⟨_, rfl⟩
  obtain ⟨tk, htk⟩ : ∃ tk : Int, tk = 0 := ⟨_, rfl⟩
  obtain ⟨sg, hsg⟩ : ∃ sg, sg = txt wIs := ⟨_, rfl⟩
  have HBX := Lib.hid (fun T T2 => boxF_new w 7 t n a 1 c 1 st tk sg T T2)
  obtain ⟨g0, g1, g2, g3⟩ := forms_alloc hT 7 (by omega) (.cells #[.int .i64 7, .string t, .int .i64 n, .slice a 1 c] 66)
  change _ = some (Value.int .i64 1) at g0; change _ = some (Value.int .i64 4) at g1; change _ = some (Value.int .i64 0) at g2; change _ = some (Value.string (txt wIs)) at g3
  rw [← hst] at g1
  rw [← htk] at g2
  rw [← hsg] at g3
  have HK := Lib.hid (fun w' hb => hx.below (w' := w') hb)
  clear hx hT
  have hstr : 1 ≤ st ∧ st ≤ 7 := by omega
  have hfm : (5 : Int) = if st = 4 then 5 else st := by rw [if_pos hst]
  have l2 : (ByteArray.mk #[32, 105, 115, 32, 110, 117, 108, 108]).size = 8 := rfl
  obtain ⟨s, hs1⟩ : ∃ s, tE x (5 : Int).toNat = s := ⟨_, rfl⟩
  have hsz : s.size ≤ 8400 := by rw [← hs1]; exact tE_size hs (by omega)
  have HE : Hid (tE (.mk 7 t n [x]) 1 = s ++ (ByteArray.mk #[32, 105, 115, 32, 110, 117, 108, 108])) := by unfold Hid; rw [tE_null, ← hs1]; rfl
  have HS := Lib.hid hs1
  have HFM := Lib.hid hfm
  clear hs1 hst htk hsg hfm
  have ad0 : ∀ w, (Op.stringOp .add s (ByteArray.mk #[32, 105, 115, 32, 110, 117, 108, 108])).run Tryz.prog w = .ok (.string (s ++ (ByteArray.mk #[32, 105, 115, 32, 110, 117, 108, 108]))) w := fun w => run_string_add_sum w _ _ (by omega)
  go_enter Tryz.func88, Tryz.ntmps88
  go_wp2_with fail
  have BX := HBX.out 66 144
  generalize (w.alloc (.cells #[.int .i64 7, .string t, .int .i64 n, .slice a 1 c] 66)).alloc (.cells #[.int .i64 1, .int .i64 st, .int .i64 tk, .string sg] 144) = W1 at BX ⊢
  obtain ⟨b, off, rfl, hbl, d0, d1, d2, _, ax, cx, d3, hkx⟩ := (HK.out _ BX.bel).spot (i := 0) (by simp)
  simp only [List.getElem_cons_zero, Nat.zero_mul, Nat.add_zero] at d0 d1 d2 d3 hkx
  have T1 : Hid (FormK w 7 1 st tk sg b off c 1 x x ax ax cx cx d W1) := ⟨BX.lt, hbl, BX.c3, BX.g0, BX.g1, BX.g2, BX.g3, d0, d1, d2, d3, (fun h => by cases h), (fun h => by cases h), (fun h => by cases h), (fun h => by cases h), hkx, (fun h => by cases h), HT.out _ BX.bel, BX.bel⟩
  clear BX d0 d1 d2 d3 hkx g0 g1 g2 g3
  have hst : Hid (∀ p q : World, ((p.cell? ⟨w.heap.size, 3, none⟩ = some (.slice (some ⟨b, off, none⟩) 1 c) ∧ p.cell? ⟨w.heap.size + 1, 0, none⟩ = some (.int .i64 1) ∧ p.cell? ⟨w.heap.size + 1, 1, none⟩ = some (.int .i64 st) ∧ p.cell? ⟨w.heap.size + 1, 2, none⟩ = some (.int .i64 tk) ∧ p.cell? ⟨w.heap.size + 1, 3, none⟩ = some (.string sg) ∧ p.cell? ⟨b, off, none⟩ = some (.int .i64 x.kind) ∧ p.cell? ⟨b, off + 1, none⟩ = some (.string x.text) ∧ p.cell? ⟨b, off + 2, none⟩ = some (.int .i64 x.num) ∧ p.cell? ⟨b, off + 3, none⟩ = some (.slice ax x.kids.length cx)) ∧ Hid (FormK w 7 1 st tk sg b off c 1 x x ax ax cx cx d p)) → Below p.heap.size p q → ((q.cell? ⟨w.heap.size, 3, none⟩ = some (.slice (some ⟨b, off, none⟩) 1 c) ∧ q.cell? ⟨w.heap.size + 1, 0, none⟩ = some (.int .i64 1) ∧ q.cell? ⟨w.heap.size + 1, 1, none⟩ = some (.int .i64 st) ∧ q.cell? ⟨w.heap.size + 1, 2, none⟩ = some (.int .i64 tk) ∧ q.cell? ⟨w.heap.size + 1, 3, none⟩ = some (.string sg) ∧ q.cell? ⟨b, off, none⟩ = some (.int .i64 x.kind) ∧ q.cell? ⟨b, off + 1, none⟩ = some (.string x.text) ∧ q.cell? ⟨b, off + 2, none⟩ = some (.int .i64 x.num) ∧ q.cell? ⟨b, off + 3, none⟩ = some (.slice ax x.kids.length cx)) ∧ Hid (FormK w 7 1 st tk sg b off c 1 x x ax ax cx cx d q))) := fun p q h hb => by
    have z := h.2.out.below hb
    exact ⟨⟨z.k3, z.g0, z.g1, z.g2, z.g3, z.x0, z.x1, z.x2, z.x3⟩, z⟩
  have hS1 : (W1.drew.cell? ⟨w.heap.size, 3, none⟩ = some (.slice (some ⟨b, off, none⟩) 1 c) ∧ W1.drew.cell? ⟨w.heap.size + 1, 0, none⟩ = some (.int .i64 1) ∧ W1.drew.cell? ⟨w.heap.size + 1, 1, none⟩ = some (.int .i64 st) ∧ W1.drew.cell? ⟨w.heap.size + 1, 2, none⟩ = some (.int .i64 tk) ∧ W1.drew.cell? ⟨w.heap.size + 1, 3, none⟩ = some (.string sg) ∧ W1.drew.cell? ⟨b, off, none⟩ = some (.int .i64 x.kind) ∧ W1.drew.cell? ⟨b, off + 1, none⟩ = some (.string x.text) ∧ W1.drew.cell? ⟨b, off + 2, none⟩ = some (.int .i64 x.num) ∧ W1.drew.cell? ⟨b, off + 3, none⟩ = some (.slice ax x.kids.length cx)) ∧ Hid (FormK w 7 1 st tk sg b off c 1 x x ax ax cx cx d W1.drew) := by
    have z := T1.out.drew
    exact ⟨⟨z.k3, z.g0, z.g1, z.g2, z.g3, z.x0, z.x1, z.x2, z.x3⟩, z⟩
  have HS1 := Lib.hid hS1
  clear hS1
  go_region_held3 (fun w' => (w'.cell? ⟨w.heap.size, 3, none⟩ = some (.slice (some ⟨b, off, none⟩) 1 c) ∧ w'.cell? ⟨w.heap.size + 1, 0, none⟩ = some (.int .i64 1) ∧ w'.cell? ⟨w.heap.size + 1, 1, none⟩ = some (.int .i64 st) ∧ w'.cell? ⟨w.heap.size + 1, 2, none⟩ = some (.int .i64 tk) ∧ w'.cell? ⟨w.heap.size + 1, 3, none⟩ = some (.string sg) ∧ w'.cell? ⟨b, off, none⟩ = some (.int .i64 x.kind) ∧ w'.cell? ⟨b, off + 1, none⟩ = some (.string x.text) ∧ w'.cell? ⟨b, off + 2, none⟩ = some (.int .i64 x.num) ∧ w'.cell? ⟨b, off + 3, none⟩ = some (.slice ax x.kids.length cx)) ∧ Hid (FormK w 7 1 st tk sg b off c 1 x x ax ax cx cx d w')) (first | assumption | exact HS1.out)
    (first
      | (go_at_call 126; refine (firstNeeds _ _ _ _ _ hstr 5 HFM.out).mono ?_; rintro e wq ⟨rfl, bq⟩; have hq := hst.out _ _ (by assumption) bq)
      | (go_at_call 125; refine (opText d ih x ax cx 5 _ (And.right (by assumption : _ ∧ Hid (FormK w 7 1 st tk sg b off c 1 x x ax ax cx cx d _))).out.tab hs (by omega) (by omega) (And.right (by assumption : _ ∧ Hid (FormK w 7 1 st tk sg b off c 1 x x ax ax cx cx d _))).out.kx s HS.out).mono ?_; rintro e wz ⟨rfl, bz⟩; have hz := hst.out _ _ (by assumption) bz))
  have B9 := Lib.hid hz.2.out.bel
  clear hz hq
  go_wp2_with fail
  go_ret
  exact ⟨by rw [HE.out]; rfl, B9.out⟩

set_option maxRecDepth 100000 in
set_option maxHeartbeats 4000000 in
theorem txtTwo (d : Nat) (ih : TxtP d) (i : Nat) (hi : i < 19) (k : Int) (hki : k = i) (hk : k ∈ ([8, 9, 10, 11, 12, 13, 14, 15, 16, 17, 18] : List Int)) (t : ByteArray) (n : Int) (x y : Ex) (a : Option Addr) (c : Nat) (w : World) (hT : Tabs w) (hsx : shapeE x = true) (hsy : shapeE y = true) (hn : x.nodes ≤ 39 ∧ y.nodes ≤ 39) (hx : KidsAt w (d + 1) a c [x, y]) :
    Calls Tryz.prog 88 #[.agg #[.int .i64 (i : Int), .string t, .int .i64 n, .slice a 2 c]] w fun z w' => z = .returned (.string (tE (.mk k t n [x, y]) 1)) ∧ Below w.heap.size w w' := by
  have HT := Lib.hid (fun w' hb => hT.below (w' := w') (B := w.heap.size) hb hT.big)
  have HK := Lib.hid (fun w' hb => hx.below (w' := w') hb)
  obtain ⟨hb6, hb3⟩ := two_binds hk
  have hb1 := (binds_range k).1
  have hk18 : 8 ≤ k ∧ k ≤ 18 := by
    have : ∀ k ∈ ([8, 9, 10, 11, 12, 13, 14, 15, 16, 17, 18] : List Int), 8 ≤ k ∧ k ≤ 18 := by decide
    exact this k hk
  have hfm : (fm i).kids = 2 ∧ (fm i).strength = (bindsK k : Int) ∧ (fm i).text = signK k := by
    have : ∀ i, i < 19 → 8 ≤ i → (fm i).kids = 2 ∧ (fm i).strength = (bindsK (i : Int) : Int) ∧ (fm i).text = signK (i : Int) := by decide
    rw [hki]
    exact this i hi (by omega)
  have kb : ((i : Int) == 0) = false ∧ ((i : Int) == 1) = false ∧ ((i : Int) == 2) = false ∧ ((i : Int) == 3) = false ∧ ((i : Int) == 4) = false ∧ ((i : Int) == 5) = false ∧ ((i : Int) == 6) = false ∧ ((i : Int) == 7) = false := by
    refine ⟨?_, ?_, ?_, ?_, ?_, ?_, ?_, ?_⟩ <;> (simp; omega)
  obtain ⟨kb0, kb1, kb2, kb3, kb4, kb5, kb6, kb7⟩ := kb
  have hi0 : (0 : Int) ≤ (i : Int) := by omega
  have hi1 : (i : Int) < 19 := by omega
  obtain ⟨g0, g1, g2, g3⟩ := forms_alloc hT i hi (.cells #[.int .i64 (i : Int), .string t, .int .i64 n, .slice a 2 c] 66)
  rw [hfm.1] at g0
  rw [hfm.2.1] at g1
  rw [hfm.2.2] at g3
  obtain ⟨tk, htk⟩ : ∃ tk, (fm i).token = tk := ⟨_, rfl⟩
  rw [htk] at g2
  clear hx hT hfm htk
  have l5 : (ByteArray.mk #[32]).size = 1 := rfl
  obtain ⟨rs, hrs⟩ : ∃ rs : Ex → Int → ByteArray, rs = fun z m => tE z m.toNat := ⟨_, rfl⟩
  obtain ⟨sg, hsg⟩ : ∃ sg, txt (signK k) = sg := ⟨_, rfl⟩
  obtain ⟨st, hbI⟩ : ∃ st : Int, (bindsK k : Int) = st := ⟨_, rfl⟩
  obtain ⟨fi, hfi⟩ : ∃ fi : Int, (firstK k : Int) = fi := ⟨_, rfl⟩
  obtain ⟨si, hsi⟩ : ∃ si : Int, st + 1 = si := ⟨_, rfl⟩
  rw [hbI] at g1
  rw [hsg] at g3
  have hzx : (rs x fi).size ≤ 8400 := by rw [hrs]; exact tE_size hsx (by omega)
  have hzy : (rs y si).size ≤ 8400 := by rw [hrs]; exact tE_size hsy (by omega)
  have hzs : sg.size ≤ 3 := by rw [← hsg, txt_size]; exact (sign_no hk).2.2
  obtain ⟨p1, hp1⟩ : ∃ p, p = rs x fi ++ (ByteArray.mk #[32]) := ⟨_, rfl⟩
  obtain ⟨p2, hp2⟩ : ∃ p, p = p1 ++ sg := ⟨_, rfl⟩
  obtain ⟨p3, hp3⟩ : ∃ p, p = p2 ++ (ByteArray.mk #[32]) := ⟨_, rfl⟩
  obtain ⟨p4, hp4⟩ : ∃ p, p = p3 ++ rs y si := ⟨_, rfl⟩
  have z1 : p1.size ≤ 8401 := by rw [hp1, ByteArray.size_append]; omega
  have z2 : p2.size ≤ 8404 := by rw [hp2, ByteArray.size_append]; omega
  have z3 : p3.size ≤ 8405 := by rw [hp3, ByteArray.size_append]; omega
  have ad1 : ∀ w, (Op.stringOp .add (rs x fi) (ByteArray.mk #[32])).run Tryz.prog w = .ok (.string p1) w := fun w => by rw [hp1]; exact run_string_add_sum w _ _ (by omega)
  have ad2 : ∀ w, (Op.stringOp .add p1 sg).run Tryz.prog w = .ok (.string p2) w := fun w => by rw [hp2]; exact run_string_add_sum w _ _ (by omega)
  have ad3 : ∀ w, (Op.stringOp .add p2 (ByteArray.mk #[32])).run Tryz.prog w = .ok (.string p3) w := fun w => by rw [hp3]; exact run_string_add_sum w _ _ (by omega)
  have ad4 : ∀ w, (Op.stringOp .add p3 (rs y si)).run Tryz.prog w = .ok (.string p4) w := fun w => by rw [hp4]; exact run_string_add_sum w _ _ (by omega)
  have HE : Hid (tE (.mk k t n [x, y]) 1 = p4) := by
    unfold Hid
    rw [tE_two hk, hp4, hp3, hp2, hp1, hrs, hsg, ← hsi, ← hbI, ← hfi]
    simp only [Int.toNat_natCast]
    rw [show ((bindsK k : Int) + 1).toNat = bindsK k + 1 by omega]
    rfl
  have hf0 : 0 ≤ fi ∧ 0 ≤ si := by omega
  have HFM : Hid (fi = if st = 4 then 5 else st) := by
    unfold Hid
    rw [← hfi, ← hbI]
    unfold firstK
    split
    · rw [if_pos (by omega)]; rfl
    · rw [if_neg (by omega)]
  have HSI := Lib.hid hsi
  have hstr : 1 ≤ st ∧ st ≤ 7 := by omega
  have cxy : Hid (∀ (z : Ex) (za : Option Addr) (zc : Nat) (m : Int) (W : World), ((z = x ∧ m = fi) ∨ (z = y ∧ m = si)) → Tabs W → KidsAt W d za zc z.kids →
      Calls Tryz.prog 125 #[.agg #[.int .i64 z.kind, .string z.text, .int .i64 z.num, .slice za z.kids.length zc], .int .i64 m] W fun e w' => e = .returned (.string (rs z m)) ∧ Below W.heap.size W w') := by
    intro z za zc m W h hT hz
    rw [hrs]
    rcases h with ⟨rfl, rfl⟩ | ⟨rfl, rfl⟩
    · exact opText d ih z za zc m W hT hsx (by omega) hf0.1 hz _ rfl
    · exact opText d ih z za zc m W hT hsy (by omega) hf0.2 hz _ rfl
  have HBX := Lib.hid (fun T T2 => boxF_new w (i : Int) t n a 2 c 2 st tk sg T T2)
  clear hrs hsg hp1 hp2 hp3 hp4 hsi hfi hbI ih
  go_enter Tryz.func88, Tryz.ntmps88
  go_wp2_with fail
  have BX := HBX.out 66 144
  generalize (w.alloc (.cells #[.int .i64 (i : Int), .string t, .int .i64 n, .slice a 2 c] 66)).alloc (.cells #[.int .i64 2, .int .i64 st, .int .i64 tk, .string sg] 144) = W1 at BX ⊢
  obtain ⟨b, off, rfl, hbl, d0, d1, d2, _, ax, cx, d3, hkx⟩ := (HK.out _ BX.bel).spot (i := 0) (by simp)
  obtain ⟨b', off', he, hbl', e0, e1, e2, _, ay, cy, e3, hky⟩ := (HK.out _ BX.bel).spot (i := 1) (by simp)
  cases he
  simp only [List.getElem_cons_zero, List.getElem_cons_succ, Nat.zero_mul, Nat.one_mul, Nat.add_zero] at d0 d1 d2 d3 hkx e0 e1 e2 e3 hky
  have T1 : Hid (FormK w k 2 st tk sg b off c 2 x y ax ay cx cy d W1) := ⟨BX.lt, hbl, BX.c3, BX.g0, BX.g1, BX.g2, BX.g3, d0, d1, d2, d3, fun _ => e0, fun _ => e1, fun _ => e2, fun _ => e3, hkx, fun _ => hky, HT.out _ BX.bel, BX.bel⟩
  clear BX d0 d1 d2 d3 hkx e0 e1 e2 e3 hky g0 g1 g2 g3
  have hst : Hid (∀ p q : World, ((p.cell? ⟨w.heap.size, 3, none⟩ = some (.slice (some ⟨b, off, none⟩) 2 c) ∧ p.cell? ⟨w.heap.size + 1, 0, none⟩ = some (.int .i64 2) ∧ p.cell? ⟨w.heap.size + 1, 1, none⟩ = some (.int .i64 st) ∧ p.cell? ⟨w.heap.size + 1, 2, none⟩ = some (.int .i64 tk) ∧ p.cell? ⟨w.heap.size + 1, 3, none⟩ = some (.string sg) ∧ p.cell? ⟨b, off, none⟩ = some (.int .i64 x.kind) ∧ p.cell? ⟨b, off + 1, none⟩ = some (.string x.text) ∧ p.cell? ⟨b, off + 2, none⟩ = some (.int .i64 x.num) ∧ p.cell? ⟨b, off + 3, none⟩ = some (.slice ax x.kids.length cx) ∧ p.cell? ⟨b, off + 4, none⟩ = some (.int .i64 y.kind) ∧ p.cell? ⟨b, off + 4 + 1, none⟩ = some (.string y.text) ∧ p.cell? ⟨b, off + 4 + 2, none⟩ = some (.int .i64 y.num) ∧ p.cell? ⟨b, off + 4 + 3, none⟩ = some (.slice ay y.kids.length cy)) ∧ Hid (FormK w k 2 st tk sg b off c 2 x y ax ay cx cy d p)) → Below p.heap.size p q → ((q.cell? ⟨w.heap.size, 3, none⟩ = some (.slice (some ⟨b, off, none⟩) 2 c) ∧ q.cell? ⟨w.heap.size + 1, 0, none⟩ = some (.int .i64 2) ∧ q.cell? ⟨w.heap.size + 1, 1, none⟩ = some (.int .i64 st) ∧ q.cell? ⟨w.heap.size + 1, 2, none⟩ = some (.int .i64 tk) ∧ q.cell? ⟨w.heap.size + 1, 3, none⟩ = some (.string sg) ∧ q.cell? ⟨b, off, none⟩ = some (.int .i64 x.kind) ∧ q.cell? ⟨b, off + 1, none⟩ = some (.string x.text) ∧ q.cell? ⟨b, off + 2, none⟩ = some (.int .i64 x.num) ∧ q.cell? ⟨b, off + 3, none⟩ = some (.slice ax x.kids.length cx) ∧ q.cell? ⟨b, off + 4, none⟩ = some (.int .i64 y.kind) ∧ q.cell? ⟨b, off + 4 + 1, none⟩ = some (.string y.text) ∧ q.cell? ⟨b, off + 4 + 2, none⟩ = some (.int .i64 y.num) ∧ q.cell? ⟨b, off + 4 + 3, none⟩ = some (.slice ay y.kids.length cy)) ∧ Hid (FormK w k 2 st tk sg b off c 2 x y ax ay cx cy d q))) := fun p q h hb => by
    have z := h.2.out.below hb
    exact ⟨⟨z.k3, z.g0, z.g1, z.g2, z.g3, z.x0, z.x1, z.x2, z.x3, z.y0 rfl, z.y1 rfl, z.y2 rfl, z.y3 rfl⟩, z⟩
  have hS1 : (W1.drew.cell? ⟨w.heap.size, 3, none⟩ = some (.slice (some ⟨b, off, none⟩) 2 c) ∧ W1.drew.cell? ⟨w.heap.size + 1, 0, none⟩ = some (.int .i64 2) ∧ W1.drew.cell? ⟨w.heap.size + 1, 1, none⟩ = some (.int .i64 st) ∧ W1.drew.cell? ⟨w.heap.size + 1, 2, none⟩ = some (.int .i64 tk) ∧ W1.drew.cell? ⟨w.heap.size + 1, 3, none⟩ = some (.string sg) ∧ W1.drew.cell? ⟨b, off, none⟩ = some (.int .i64 x.kind) ∧ W1.drew.cell? ⟨b, off + 1, none⟩ = some (.string x.text) ∧ W1.drew.cell? ⟨b, off + 2, none⟩ = some (.int .i64 x.num) ∧ W1.drew.cell? ⟨b, off + 3, none⟩ = some (.slice ax x.kids.length cx) ∧ W1.drew.cell? ⟨b, off + 4, none⟩ = some (.int .i64 y.kind) ∧ W1.drew.cell? ⟨b, off + 4 + 1, none⟩ = some (.string y.text) ∧ W1.drew.cell? ⟨b, off + 4 + 2, none⟩ = some (.int .i64 y.num) ∧ W1.drew.cell? ⟨b, off + 4 + 3, none⟩ = some (.slice ay y.kids.length cy)) ∧ Hid (FormK w k 2 st tk sg b off c 2 x y ax ay cx cy d W1.drew) := by
    have z := T1.out.drew
    exact ⟨⟨z.k3, z.g0, z.g1, z.g2, z.g3, z.x0, z.x1, z.x2, z.x3, z.y0 rfl, z.y1 rfl, z.y2 rfl, z.y3 rfl⟩, z⟩
  have HS1 := Lib.hid hS1
  clear hS1
  go_region_held3 (fun w' => (w'.cell? ⟨w.heap.size, 3, none⟩ = some (.slice (some ⟨b, off, none⟩) 2 c) ∧ w'.cell? ⟨w.heap.size + 1, 0, none⟩ = some (.int .i64 2) ∧ w'.cell? ⟨w.heap.size + 1, 1, none⟩ = some (.int .i64 st) ∧ w'.cell? ⟨w.heap.size + 1, 2, none⟩ = some (.int .i64 tk) ∧ w'.cell? ⟨w.heap.size + 1, 3, none⟩ = some (.string sg) ∧ w'.cell? ⟨b, off, none⟩ = some (.int .i64 x.kind) ∧ w'.cell? ⟨b, off + 1, none⟩ = some (.string x.text) ∧ w'.cell? ⟨b, off + 2, none⟩ = some (.int .i64 x.num) ∧ w'.cell? ⟨b, off + 3, none⟩ = some (.slice ax x.kids.length cx) ∧ w'.cell? ⟨b, off + 4, none⟩ = some (.int .i64 y.kind) ∧ w'.cell? ⟨b, off + 4 + 1, none⟩ = some (.string y.text) ∧ w'.cell? ⟨b, off + 4 + 2, none⟩ = some (.int .i64 y.num) ∧ w'.cell? ⟨b, off + 4 + 3, none⟩ = some (.slice ay y.kids.length cy)) ∧ Hid (FormK w k 2 st tk sg b off c 2 x y ax ay cx cy d w')) (first | assumption | exact HS1.out)
    (first
      | (go_at_call 126; refine (firstNeeds _ _ _ _ _ hstr fi HFM.out).mono ?_; rintro e wq ⟨rfl, bq⟩; have hq := hst.out _ _ (by assumption) bq)
      | (go_at_call 127; refine (secondNeeds _ _ _ _ _ hstr si HSI.out).mono ?_; rintro e wq ⟨rfl, bq⟩; have hq := hst.out _ _ (by assumption) bq)
      | (go_at_call 125; refine (cxy.out _ _ _ _ _ (by first | exact .inl ⟨rfl, rfl⟩ | exact .inr ⟨rfl, rfl⟩) (And.right (by assumption : _ ∧ Hid (FormK w k 2 st tk sg b off c 2 x y ax ay cx cy d _))).out.tab (by first | exact (And.right (by assumption : _ ∧ Hid (FormK w k 2 st tk sg b off c 2 x y ax ay cx cy d _))).out.kx | exact (And.right (by assumption : _ ∧ Hid (FormK w k 2 st tk sg b off c 2 x y ax ay cx cy d _))).out.ky rfl)).mono ?_; rintro e wz ⟨rfl, bz⟩; have hz := hst.out _ _ (by assumption) bz))
  have B9 := Lib.hid hz.2.out.bel
  clear hz hq
  go_wp2_with fail
  go_ret
  exact ⟨by rw [HE.out]; rfl, B9.out⟩

theorem implText : ∀ d, TxtP d
  | 0 => fun _ _ _ _ _ _ _ h => h.elim
  | d + 1 => by
    intro e a c w hT hs hn hk
    obtain ⟨k, t, n, kids⟩ := e
    obtain ⟨h1, hl⟩ := shape_parts hs
    have hne := Ex.nodes_eq (.mk k t n kids)
    match kids, h1, hl, hk, hne with
    | [], h1, _, _, _ => exact txtLeaf k t n a c w hT h1
    | [x], h1, hl, hk, hne =>
      rw [shapeL, Bool.and_eq_true] at hl
      change _ = 1 + nodesL [x] at hne
      rw [nodesL, nodesL] at hne
      rcases one_kid (arity h1) with rfl | rfl
      · exact txtNot d (implText d) t n x a c w hT hl.1 (by omega) hk
      · exact txtNull d (implText d) t n x a c w hT hl.1 (by omega) hk
    | [x, y], h1, hl, hk, hne =>
      rw [shapeL, shapeL, Bool.and_eq_true, Bool.and_eq_true] at hl
      change _ = 1 + nodesL [x, y] at hne
      rw [nodesL, nodesL, nodesL] at hne
      have hin := kind_in h1
      obtain ⟨i, hi⟩ : ∃ i : Nat, k = i := ⟨k.toNat, by omega⟩
      have := txtTwo d (implText d) i (by omega) k hi (two_mem (arity h1)) t n x y a c w hT hl.1 hl.2.1 (by omega) hk
      rw [← hi] at this
      exact this
    | x :: y :: z :: r, h1, _, _, _ =>
      have := arity h1
      unfold kidsK at this
      simp only [List.length_cons] at this
      split at this
      · omega
      · split at this
        · omega
        · split at this <;> omega

set_option maxHeartbeats 1000000 in
theorem implPutExpr (e : Ex) (a : Option Addr) (c d : Nat) (w : World) (hT : Tabs w) (hfit : e.fit) (hk : KidsAt w d a c e.kids) (hn : e.nodes ≤ 1073741824) (r : ByteArray) (hr : putT e = r) :
    Calls Tryz.prog 44 #[.agg #[.int .i64 e.kind, .string e.text, .int .i64 e.num, .slice a e.kids.length c]] w fun x w' => x = .returned (.string r) ∧ Below w.heap.size w w' := by
  have HK := Lib.hid (fun w' hb => hk.below (w' := w') hb)
  have HT := Lib.hid (fun w' hb => hT.below (w' := w') (B := w.heap.size) hb hT.big)
  have HBX := Lib.hid (fun T => boxK_new w e.kind e.text e.num a e.kids.length c T)
  clear hk hT
  cases hok : (decide (e.nodes ≤ 40) && shapeE e) with
  | true =>
    have hr2 : tE e 1 = r := by rw [← hr, putT, if_pos hok]
    have HOK := Lib.hid hok
    have hb := hok
    rw [Bool.and_eq_true, decide_eq_true_eq] at hb
    have HR := Lib.hid hr2
    clear hok hr hr2
    go_enter Tryz.func44, Tryz.ntmps44
    go_wp2_with fail
    refine (implExprOk e a c d _ (HT.out _ (HBX.out _).bel).forms hfit (HK.out _ (HBX.out _).bel) hn true HOK.out).mono ?_
    rintro x w2 ⟨rfl, hb2⟩
    have BX := (HBX.out _).below hb2
    obtain ⟨hW1, c0, c1, c2, c3, bW1⟩ := BX
    clear hb2
    go_wp2_with fail
    have hput := implText d e a c w2 (HT.out _ bW1) hb.2 hb.1 (HK.out _ bW1)
    rw [HR.out] at hput
    refine hput.mono ?_
    rintro x w3 ⟨rfl, hb3⟩
    have B3 := Lib.hid (bW1.trans (hb3.mono bW1.size))
    clear hb3 hput
    go_wp2_with fail
    go_ret
    exact ⟨rfl, B3.out⟩
  | false =>
    have HOK := Lib.hid hok
    have HR : Hid (r = txt []) := by unfold Hid; rw [← hr, putT, if_neg (by rw [hok]; decide)]
    clear hok hr
    go_enter Tryz.func44, Tryz.ntmps44
    go_wp2_with fail
    refine (implExprOk e a c d _ (HT.out _ (HBX.out _).bel).forms hfit (HK.out _ (HBX.out _).bel) hn false HOK.out).mono ?_
    rintro x w2 ⟨rfl, hb2⟩
    have B2 := Lib.hid ((HBX.out _).below hb2).bel
    clear hb2
    go_wp2_with fail
    go_ret
    exact ⟨by rw [HR.out]; rfl, B2.out⟩

end Go.Proofs.YtpdcmmhhgnackaaGreatDoor

namespace Go.Proofs.YtpdcmmhhgnackaaGreatDoor
open Go.RowKit

/-- A type lies in block p and a form in block q, behind the world w0. -/
def LayTF (w0 : World) (p q : Nat) (k l : Int) (s f : ByteArray) (mn mx : Int) (nm : Bool) (w : World) : Prop :=
  Lay1 w0 p k l s w ∧ q < w.heap.size ∧ w.heap[q]? = some (.cells #[.string f, .int .i64 mn, .int .i64 mx, .bool nm] 114 (0, 0))

theorem LayTF.below {w0 : World} {p q : Nat} {k l : Int} {s f : ByteArray} {mn mx : Int} {nm : Bool} {w w' : World} (h : LayTF w0 p q k l s f mn mx nm w) (hb : Below w.heap.size w w') : LayTF w0 p q k l s f mn mx nm w' :=
  ⟨h.1.below hb, Nat.lt_of_lt_of_le h.2.1 hb.size, (hb.block q h.2.1).trans h.2.2⟩

theorem formCells {w : World} {q : Nat} {f : ByteArray} {mn mx : Int} {nm : Bool} {T : TypeId} (h : w.heap[q]? = some (.cells #[.string f, .int .i64 mn, .int .i64 mx, .bool nm] T (0, 0))) :
    w.cell? ⟨q, 0, none⟩ = some (.string f) ∧ w.cell? ⟨q, 1, none⟩ = some (.int .i64 mn) ∧ w.cell? ⟨q, 2, none⟩ = some (.int .i64 mx) ∧ w.cell? ⟨q, 3, none⟩ = some (.bool nm) := by
  rw [cell_of_row _ _ _ _ _ _ h, cell_of_row _ _ _ _ _ _ h, cell_of_row _ _ _ _ _ _ h, cell_of_row _ _ _ _ _ _ h]
  exact ⟨rfl, rfl, rfl, rfl⟩

theorem row_set {w : World} {q j : Nat} {cs : Array Value} {T : TypeId} (h : w.heap[q]? = some (.cells cs T (0, 0))) (v : Value) : (w.setCell ⟨q, j, none⟩ v).heap[q]? = some (.cells (cs.setIfInBounds j v) T (0, 0)) := by
  simp [World.setCell, Array.getElem?_modify, h]

theorem LayTF.set4 {w0 w : World} {p q : Nat} {k l : Int} {s f : ByteArray} {mn mx : Int} {nm : Bool} (h : Lay1 w0 p k l s w) (hr : w.heap[q]? = some (.cells #[.string ⟨#[]⟩, .int .i64 0, .int .i64 0, .bool false] 114 (0, 0))) (hpq : p ≠ q) (hq : w0.heap.size ≤ q) :
    LayTF w0 p q k l s f mn mx nm ((((w.setCell ⟨q, 0, none⟩ (.string f)).setCell ⟨q, 1, none⟩ (.int .i64 mn)).setCell ⟨q, 2, none⟩ (.int .i64 mx)).setCell ⟨q, 3, none⟩ (.bool nm)) := by
  have st : ∀ {w : World} (h : Lay1 w0 p k l s w) (j : Nat) (v : Value), Lay1 w0 p k l s (w.setCell ⟨q, j, none⟩ v) := fun {w} h j v => by
    have hc : ∀ o, (w.setCell ⟨q, j, none⟩ v).cell? ⟨p, o, none⟩ = w.cell? ⟨p, o, none⟩ := fun o => World.cell?_of_block (w := w) (w' := w.setCell ⟨q, j, none⟩ v) (a := ⟨p, o, none⟩) (Below.heap_setCell _ _ _ _ hpq)
    exact ⟨⟨(hc 0).trans h.1.1, (hc 1).trans h.1.2.1, (hc 2).trans h.1.2.2⟩, by rw [size_setCell]; exact h.2.1, below_setCell h.2.2 h.2.2.size hq⟩
  have hlt : q < w.heap.size := by
    rcases Nat.lt_or_ge q w.heap.size with h' | h'
    · exact h'
    · rw [Array.getElem?_eq_none h'] at hr; cases hr
  refine ⟨st (st (st (st h 0 _) 1 _) 2 _) 3 _, by simpa only [size_setCell] using hlt, ?_⟩
  rw [row_set (row_set (row_set (row_set hr (.string f)) (.int .i64 mn)) (.int .i64 mx)) (.bool nm)]
  rfl

theorem below_drewL {w w' : World} (h : Below w.drew.heap.size w.drew w') : Below w.heap.size w w' := ⟨h.os, h.tape, h.output, h.size, h.block⟩
theorem below_toDrew {B : Nat} {w w' : World} (h : Below B w w') : Below B w w'.drew := ⟨h.os, h.tape, h.output, h.size, h.block⟩
theorem implDecIs (n : Int) (w : World) (h0 : -9223372036854775808 ≤ n) (h1 : n ≤ 9223372036854775807) (ht : Lib.TabIs Tryz.prog w "internal/strconv.uint64pow10" .u64 Lib.pow10Tab) (D : ByteArray) (hD : dec n = D) :
    Calls Tryz.prog 82 #[.int .i64 n] w fun e w' => e = .returned (.string D) ∧ Below w.heap.size w w' := hD ▸ implDecText n w h0 h1 ht

set_option maxHeartbeats 8000000 in
theorem typeTextNone (k l : Int) (s : ByteArray) (w : World) (hs : s.size ≤ 1048576) (f : ByteArray) (mn mx : Int) (nm : Bool) (hfz : f.size ≤ 10) (r : ByteArray)
    (HL : Hid (∀ (W : World) (b : Nat), W.ownsMap Tryz.prog 3 formR b 5 formsD → (Instr.lookup 116 (.map (some b)) (.int .i64 k) true).run Tryz.prog W = .ok (.tuple #[.agg #[.string f, .int .i64 mn, .int .i64 mx, .bool nm], .bool false]) W))
    (HR : Hid (r = ⟨#[]⟩))
    : Calls Tryz.prog 31 #[.agg #[.int .i64 k, .int .i64 l, .string s]] w fun e w' => e = .returned (.string r) ∧ Below w.heap.size w w' := by
  have hlay := Lib.hid (lay1_new w 29 k l s)
  go_enter Tryz.func31, Tryz.ntmps31
  go_wp2_with fail
  generalize w.alloc (.cells #[.int .i64 k, .int .i64 l, .string s] 29) = W0 at hlay ⊢
  obtain ⟨⟨c0, c1, c2⟩, hlt0, hb0⟩ := hlay.out
  have hne : ¬ W0.heap.size = w.heap.size := by omega
  have hne' : ¬ w.heap.size = W0.heap.size := by omega
  have hst : Hid (∀ a b : World, W0.heap.size ≤ a.heap.size → (a.cell? ⟨w.heap.size, 0, none⟩ = some (.int .i64 k) ∧ a.cell? ⟨w.heap.size, 1, none⟩ = some (.int .i64 l) ∧ a.cell? ⟨w.heap.size, 2, none⟩ = some (.string s)) → Below a.heap.size a b → (b.cell? ⟨w.heap.size, 0, none⟩ = some (.int .i64 k) ∧ b.cell? ⟨w.heap.size, 1, none⟩ = some (.int .i64 l) ∧ b.cell? ⟨w.heap.size, 2, none⟩ = some (.string s))) :=
    fun a b hle h hb => ⟨(hb.cell (p := ⟨w.heap.size, 0, none⟩) (Nat.lt_of_lt_of_le hlt0 hle)).trans h.1, (hb.cell (p := ⟨w.heap.size, 1, none⟩) (Nat.lt_of_lt_of_le hlt0 hle)).trans h.2.1, (hb.cell (p := ⟨w.heap.size, 2, none⟩) (Nat.lt_of_lt_of_le hlt0 hle)).trans h.2.2⟩
  have HB0 := Lib.hid hb0
  clear hb0
  go_region_held3 (fun w' => w'.cell? ⟨w.heap.size, 0, none⟩ = some (.int .i64 k) ∧ w'.cell? ⟨w.heap.size, 1, none⟩ = some (.int .i64 l) ∧ w'.cell? ⟨w.heap.size, 2, none⟩ = some (.string s))
    (go_keep)
    ((go_at_call 80; refine (implForms _).mono ?_; rintro e w1 ⟨rfl, o1, b1⟩; have q1 := HL.out _ _ o1; have q2 := fun o => HL.out _ _ (World.ownsMap.alloc o1 o); obtain ⟨hcw, hfw⟩ := blockCells b1; (try simp only [World.size_alloc, drew_heap] at q1 q2); obtain ⟨d0, d1, d2⟩ := hst.out _ _ (by simp) (by assumption) b1; have O1 := Lib.hid o1; have B1 := Lib.hid b1; clear o1 b1))
  · have LF : LayTF w w.heap.size w1.heap.size k l s f mn mx nm (w1.alloc (.cells #[.string f, .int .i64 mn, .int .i64 mx, .bool nm] 114)) := by
      have h0 := HB0.out.drew
      have h1 : Below w.heap.size w w1 := h0.trans (B1.out.mono h0.size)
      have hw1 : W0.heap.size ≤ w1.heap.size := B1.out.size
      have hl1 : Lay1 w w.heap.size k l s w1 := ⟨⟨d0, d1, d2⟩, Nat.lt_of_lt_of_le hlt0 hw1, h1⟩
      exact ⟨hl1.alloc _, by simp, heap_alloc_new _ _⟩
    generalize w1.alloc (.cells #[.string f, .int .i64 mn, .int .i64 mx, .bool nm] 114) = W2 at LF ⊢
    generalize w1.heap.size = q at LF ⊢
    have HLF := Lib.hid LF
    obtain ⟨⟨⟨c0', c1', c2'⟩, _⟩, _, hrq⟩ := LF
    obtain ⟨f0, f1, f2, f3⟩ := formCells hrq
    clear hrq c0 c1 c2 hcw hfw d0 d1 d2 q1 q2
    go_wp2_with fail
    go_ret
    exact ⟨by rw [HR.out]; rfl, HLF.out.1.2.2⟩
  · have LF : LayTF w w.heap.size w1.heap.size k l s f mn mx nm (w1.alloc (.cells #[.string f, .int .i64 mn, .int .i64 mx, .bool nm] 114)) := by
      have h0 := HB0.out.drew
      have h1 : Below w.heap.size w w1 := h0.trans (B1.out.mono h0.size)
      have hw1 : W0.heap.size ≤ w1.heap.size := B1.out.size
      have hl1 : Lay1 w w.heap.size k l s w1 := ⟨⟨d0, d1, d2⟩, Nat.lt_of_lt_of_le hlt0 hw1, h1⟩
      exact ⟨hl1.alloc _, by simp, heap_alloc_new _ _⟩
    generalize w1.alloc (.cells #[.string f, .int .i64 mn, .int .i64 mx, .bool nm] 114) = W2 at LF ⊢
    generalize w1.heap.size = q at LF ⊢
    have HLF := Lib.hid LF
    obtain ⟨⟨⟨c0', c1', c2'⟩, _⟩, _, hrq⟩ := LF
    obtain ⟨f0, f1, f2, f3⟩ := formCells hrq
    clear hrq c0 c1 c2 hcw hfw d0 d1 d2 q1 q2
    go_wp2_with fail
    go_ret
    exact ⟨by rw [HR.out]; rfl, HLF.out.1.2.2⟩
  · have LF : LayTF w w.heap.size W0.heap.size k l s f mn mx nm ((((w1.setCell ⟨W0.heap.size, 0, none⟩ (.string f)).setCell ⟨W0.heap.size, 1, none⟩ (.int .i64 mn)).setCell ⟨W0.heap.size, 2, none⟩ (.int .i64 mx)).setCell ⟨W0.heap.size, 3, none⟩ (.bool nm)) := by
      have h0 := HB0.out.drew
      have h0a := h0.alloc h0.size (.cells #[.string ⟨#[]⟩, .int .i64 0, .int .i64 0, .bool false] 114)
      have h1 : Below w.heap.size w w1 := h0a.trans (B1.out.mono h0a.size)
      have hw1 : W0.heap.size + 1 ≤ w1.heap.size := by have := B1.out.size; simpa using this
      have hq : w.heap.size ≤ W0.heap.size := Nat.le_of_lt hlt0
      have hl1 : Lay1 w w.heap.size k l s w1 := ⟨⟨d0, d1, d2⟩, by omega, h1⟩
      have hrow : w1.heap[W0.heap.size]? = some (.cells #[.string ⟨#[]⟩, .int .i64 0, .int .i64 0, .bool false] 114 (0, 0)) := (B1.out.block W0.heap.size (by simp)).trans (heap_alloc_new W0.drew _)
      exact LayTF.set4 hl1 hrow (by omega) hq
    generalize (((w1.setCell ⟨W0.heap.size, 0, none⟩ (.string f)).setCell ⟨W0.heap.size, 1, none⟩ (.int .i64 mn)).setCell ⟨W0.heap.size, 2, none⟩ (.int .i64 mx)).setCell ⟨W0.heap.size, 3, none⟩ (.bool nm) = W2 at LF ⊢
    generalize W0.heap.size = q at LF ⊢
    have HLF := Lib.hid LF
    obtain ⟨⟨⟨c0', c1', c2'⟩, _⟩, _, hrq⟩ := LF
    obtain ⟨f0, f1, f2, f3⟩ := formCells hrq
    clear hrq c0 c1 c2 hcw hfw d0 d1 d2 q1 q2
    go_wp2_with fail
    go_ret
    exact ⟨by rw [HR.out]; rfl, HLF.out.1.2.2⟩

set_option maxHeartbeats 8000000 in
theorem typeTextBad (k l : Int) (s : ByteArray) (w : World) (hs : s.size ≤ 1048576) (f : ByteArray) (mn mx : Int) (nm : Bool) (hfz : f.size ≤ 10) (r : ByteArray)
    (HL : Hid (∀ (W : World) (b : Nat), W.ownsMap Tryz.prog 3 formR b 5 formsD → (Instr.lookup 116 (.map (some b)) (.int .i64 k) true).run Tryz.prog W = .ok (.tuple #[.agg #[.string f, .int .i64 mn, .int .i64 mx, .bool nm], .bool true]) W))
    (HF : Hid (fitsB mn mx nm l s = false)) (HR : Hid (r = ⟨#[]⟩))
    : Calls Tryz.prog 31 #[.agg #[.int .i64 k, .int .i64 l, .string s]] w fun e w' => e = .returned (.string r) ∧ Below w.heap.size w w' := by
  have hlay := Lib.hid (lay1_new w 29 k l s)
  go_enter Tryz.func31, Tryz.ntmps31
  go_wp2_with fail
  generalize w.alloc (.cells #[.int .i64 k, .int .i64 l, .string s] 29) = W0 at hlay ⊢
  obtain ⟨⟨c0, c1, c2⟩, hlt0, hb0⟩ := hlay.out
  have hne : ¬ W0.heap.size = w.heap.size := by omega
  have hne' : ¬ w.heap.size = W0.heap.size := by omega
  have hst : Hid (∀ a b : World, W0.heap.size ≤ a.heap.size → (a.cell? ⟨w.heap.size, 0, none⟩ = some (.int .i64 k) ∧ a.cell? ⟨w.heap.size, 1, none⟩ = some (.int .i64 l) ∧ a.cell? ⟨w.heap.size, 2, none⟩ = some (.string s)) → Below a.heap.size a b → (b.cell? ⟨w.heap.size, 0, none⟩ = some (.int .i64 k) ∧ b.cell? ⟨w.heap.size, 1, none⟩ = some (.int .i64 l) ∧ b.cell? ⟨w.heap.size, 2, none⟩ = some (.string s))) :=
    fun a b hle h hb => ⟨(hb.cell (p := ⟨w.heap.size, 0, none⟩) (Nat.lt_of_lt_of_le hlt0 hle)).trans h.1, (hb.cell (p := ⟨w.heap.size, 1, none⟩) (Nat.lt_of_lt_of_le hlt0 hle)).trans h.2.1, (hb.cell (p := ⟨w.heap.size, 2, none⟩) (Nat.lt_of_lt_of_le hlt0 hle)).trans h.2.2⟩
  have HB0 := Lib.hid hb0
  clear hb0
  go_region_held3 (fun w' => w'.cell? ⟨w.heap.size, 0, none⟩ = some (.int .i64 k) ∧ w'.cell? ⟨w.heap.size, 1, none⟩ = some (.int .i64 l) ∧ w'.cell? ⟨w.heap.size, 2, none⟩ = some (.string s))
    (go_keep)
    ((go_at_call 80; refine (implForms _).mono ?_; rintro e w1 ⟨rfl, o1, b1⟩; have q1 := HL.out _ _ o1; have q2 := fun o => HL.out _ _ (World.ownsMap.alloc o1 o); obtain ⟨hcw, hfw⟩ := blockCells b1; (try simp only [World.size_alloc, drew_heap] at q1 q2); obtain ⟨d0, d1, d2⟩ := hst.out _ _ (by simp) (by assumption) b1; have O1 := Lib.hid o1; have B1 := Lib.hid b1; clear o1 b1))
  · have LF : LayTF w w.heap.size w1.heap.size k l s f mn mx nm (w1.alloc (.cells #[.string f, .int .i64 mn, .int .i64 mx, .bool nm] 114)) := by
      have h0 := HB0.out.drew
      have h1 : Below w.heap.size w w1 := h0.trans (B1.out.mono h0.size)
      have hw1 : W0.heap.size ≤ w1.heap.size := B1.out.size
      have hl1 : Lay1 w w.heap.size k l s w1 := ⟨⟨d0, d1, d2⟩, Nat.lt_of_lt_of_le hlt0 hw1, h1⟩
      exact ⟨hl1.alloc _, by simp, heap_alloc_new _ _⟩
    generalize w1.alloc (.cells #[.string f, .int .i64 mn, .int .i64 mx, .bool nm] 114) = W2 at LF ⊢
    generalize w1.heap.size = q at LF ⊢
    have HLF := Lib.hid LF
    obtain ⟨⟨⟨c0', c1', c2'⟩, _⟩, _, hrq⟩ := LF
    obtain ⟨f0, f1, f2, f3⟩ := formCells hrq
    clear hrq c0 c1 c2 hcw hfw d0 d1 d2 q1 q2
    go_wp2_with fail
    refine (implFits f mn mx nm k l s _ false HF.out).mono ?_
    rintro e w9 ⟨rfl, b9⟩
    have L9 := Lib.hid (HLF.out.below b9)
    clear c0' c1' c2' f0 f1 f2 f3 b9
    obtain ⟨⟨⟨c0, c1, c2⟩, _⟩, _, hr9⟩ := L9.out
    obtain ⟨f0, f1, f2, f3⟩ := formCells hr9
    clear hr9
    go_wp2_with fail
    go_ret
    exact ⟨by rw [HR.out]; rfl, L9.out.1.2.2⟩
  · have LF : LayTF w w.heap.size w1.heap.size k l s f mn mx nm (w1.alloc (.cells #[.string f, .int .i64 mn, .int .i64 mx, .bool nm] 114)) := by
      have h0 := HB0.out.drew
      have h1 : Below w.heap.size w w1 := h0.trans (B1.out.mono h0.size)
      have hw1 : W0.heap.size ≤ w1.heap.size := B1.out.size
      have hl1 : Lay1 w w.heap.size k l s w1 := ⟨⟨d0, d1, d2⟩, Nat.lt_of_lt_of_le hlt0 hw1, h1⟩
      exact ⟨hl1.alloc _, by simp, heap_alloc_new _ _⟩
    generalize w1.alloc (.cells #[.string f, .int .i64 mn, .int .i64 mx, .bool nm] 114) = W2 at LF ⊢
    generalize w1.heap.size = q at LF ⊢
    have HLF := Lib.hid LF
    obtain ⟨⟨⟨c0', c1', c2'⟩, _⟩, _, hrq⟩ := LF
    obtain ⟨f0, f1, f2, f3⟩ := formCells hrq
    clear hrq c0 c1 c2 hcw hfw d0 d1 d2 q1 q2
    go_wp2_with fail
    refine (implFits f mn mx nm k l s _ false HF.out).mono ?_
    rintro e w9 ⟨rfl, b9⟩
    have L9 := Lib.hid (HLF.out.below b9)
    clear c0' c1' c2' f0 f1 f2 f3 b9
    obtain ⟨⟨⟨c0, c1, c2⟩, _⟩, _, hr9⟩ := L9.out
    obtain ⟨f0, f1, f2, f3⟩ := formCells hr9
    clear hr9
    go_wp2_with fail
    go_ret
    exact ⟨by rw [HR.out]; rfl, L9.out.1.2.2⟩
  · have LF : LayTF w w.heap.size W0.heap.size k l s f mn mx nm ((((w1.setCell ⟨W0.heap.size, 0, none⟩ (.string f)).setCell ⟨W0.heap.size, 1, none⟩ (.int .i64 mn)).setCell ⟨W0.heap.size, 2, none⟩ (.int .i64 mx)).setCell ⟨W0.heap.size, 3, none⟩ (.bool nm)) := by
      have h0 := HB0.out.drew
      have h0a := h0.alloc h0.size (.cells #[.string ⟨#[]⟩, .int .i64 0, .int .i64 0, .bool false] 114)
      have h1 : Below w.heap.size w w1 := h0a.trans (B1.out.mono h0a.size)
      have hw1 : W0.heap.size + 1 ≤ w1.heap.size := by have := B1.out.size; simpa using this
      have hq : w.heap.size ≤ W0.heap.size := Nat.le_of_lt hlt0
      have hl1 : Lay1 w w.heap.size k l s w1 := ⟨⟨d0, d1, d2⟩, by omega, h1⟩
      have hrow : w1.heap[W0.heap.size]? = some (.cells #[.string ⟨#[]⟩, .int .i64 0, .int .i64 0, .bool false] 114 (0, 0)) := (B1.out.block W0.heap.size (by simp)).trans (heap_alloc_new W0.drew _)
      exact LayTF.set4 hl1 hrow (by omega) hq
    generalize (((w1.setCell ⟨W0.heap.size, 0, none⟩ (.string f)).setCell ⟨W0.heap.size, 1, none⟩ (.int .i64 mn)).setCell ⟨W0.heap.size, 2, none⟩ (.int .i64 mx)).setCell ⟨W0.heap.size, 3, none⟩ (.bool nm) = W2 at LF ⊢
    generalize W0.heap.size = q at LF ⊢
    have HLF := Lib.hid LF
    obtain ⟨⟨⟨c0', c1', c2'⟩, _⟩, _, hrq⟩ := LF
    obtain ⟨f0, f1, f2, f3⟩ := formCells hrq
    clear hrq c0 c1 c2 hcw hfw d0 d1 d2 q1 q2
    go_wp2_with fail
    refine (implFits f mn mx nm k l s _ false HF.out).mono ?_
    rintro e w9 ⟨rfl, b9⟩
    have L9 := Lib.hid (HLF.out.below b9)
    clear c0' c1' c2' f0 f1 f2 f3 b9
    obtain ⟨⟨⟨c0, c1, c2⟩, _⟩, _, hr9⟩ := L9.out
    obtain ⟨f0, f1, f2, f3⟩ := formCells hr9
    clear hr9
    go_wp2_with fail
    go_ret
    exact ⟨by rw [HR.out]; rfl, L9.out.1.2.2⟩

set_option maxHeartbeats 8000000 in
theorem typeTextWord (k l : Int) (s : ByteArray) (w : World) (hs : s.size ≤ 1048576) (f : ByteArray) (mn mx : Int) (hfz : f.size ≤ 10) (r : ByteArray)
    (HL : Hid (∀ (W : World) (b : Nat), W.ownsMap Tryz.prog 3 formR b 5 formsD → (Instr.lookup 116 (.map (some b)) (.int .i64 k) true).run Tryz.prog W = .ok (.tuple #[.agg #[.string f, .int .i64 mn, .int .i64 mx, .bool false], .bool true]) W))
    (HF : Hid (fitsB mn mx false l s = true)) (hmx : decide (0 < mx) = false) (HR : Hid (r = f))
    : Calls Tryz.prog 31 #[.agg #[.int .i64 k, .int .i64 l, .string s]] w fun e w' => e = .returned (.string r) ∧ Below w.heap.size w w' := by
  have hlay := Lib.hid (lay1_new w 29 k l s)
  go_enter Tryz.func31, Tryz.ntmps31
  go_wp2_with fail
  generalize w.alloc (.cells #[.int .i64 k, .int .i64 l, .string s] 29) = W0 at hlay ⊢
  obtain ⟨⟨c0, c1, c2⟩, hlt0, hb0⟩ := hlay.out
  have hne : ¬ W0.heap.size = w.heap.size := by omega
  have hne' : ¬ w.heap.size = W0.heap.size := by omega
  have hst : Hid (∀ a b : World, W0.heap.size ≤ a.heap.size → (a.cell? ⟨w.heap.size, 0, none⟩ = some (.int .i64 k) ∧ a.cell? ⟨w.heap.size, 1, none⟩ = some (.int .i64 l) ∧ a.cell? ⟨w.heap.size, 2, none⟩ = some (.string s)) → Below a.heap.size a b → (b.cell? ⟨w.heap.size, 0, none⟩ = some (.int .i64 k) ∧ b.cell? ⟨w.heap.size, 1, none⟩ = some (.int .i64 l) ∧ b.cell? ⟨w.heap.size, 2, none⟩ = some (.string s))) :=
    fun a b hle h hb => ⟨(hb.cell (p := ⟨w.heap.size, 0, none⟩) (Nat.lt_of_lt_of_le hlt0 hle)).trans h.1, (hb.cell (p := ⟨w.heap.size, 1, none⟩) (Nat.lt_of_lt_of_le hlt0 hle)).trans h.2.1, (hb.cell (p := ⟨w.heap.size, 2, none⟩) (Nat.lt_of_lt_of_le hlt0 hle)).trans h.2.2⟩
  have HB0 := Lib.hid hb0
  clear hb0
  go_region_held3 (fun w' => w'.cell? ⟨w.heap.size, 0, none⟩ = some (.int .i64 k) ∧ w'.cell? ⟨w.heap.size, 1, none⟩ = some (.int .i64 l) ∧ w'.cell? ⟨w.heap.size, 2, none⟩ = some (.string s))
    (go_keep)
    ((go_at_call 80; refine (implForms _).mono ?_; rintro e w1 ⟨rfl, o1, b1⟩; have q1 := HL.out _ _ o1; have q2 := fun o => HL.out _ _ (World.ownsMap.alloc o1 o); obtain ⟨hcw, hfw⟩ := blockCells b1; (try simp only [World.size_alloc, drew_heap] at q1 q2); obtain ⟨d0, d1, d2⟩ := hst.out _ _ (by simp) (by assumption) b1; have O1 := Lib.hid o1; have B1 := Lib.hid b1; clear o1 b1))
  · have LF : LayTF w w.heap.size w1.heap.size k l s f mn mx false (w1.alloc (.cells #[.string f, .int .i64 mn, .int .i64 mx, .bool false] 114)) := by
      have h0 := HB0.out.drew
      have h1 : Below w.heap.size w w1 := h0.trans (B1.out.mono h0.size)
      have hw1 : W0.heap.size ≤ w1.heap.size := B1.out.size
      have hl1 : Lay1 w w.heap.size k l s w1 := ⟨⟨d0, d1, d2⟩, Nat.lt_of_lt_of_le hlt0 hw1, h1⟩
      exact ⟨hl1.alloc _, by simp, heap_alloc_new _ _⟩
    generalize w1.alloc (.cells #[.string f, .int .i64 mn, .int .i64 mx, .bool false] 114) = W2 at LF ⊢
    generalize w1.heap.size = q at LF ⊢
    have HLF := Lib.hid LF
    obtain ⟨⟨⟨c0', c1', c2'⟩, _⟩, _, hrq⟩ := LF
    obtain ⟨f0, f1, f2, f3⟩ := formCells hrq
    clear hrq c0 c1 c2 hcw hfw d0 d1 d2 q1 q2
    go_wp2_with fail
    refine (implFits f mn mx false k l s _ true HF.out).mono ?_
    rintro e w9 ⟨rfl, b9⟩
    have L9 := Lib.hid (HLF.out.below b9)
    clear c0' c1' c2' f0 f1 f2 f3 b9
    obtain ⟨⟨⟨c0, c1, c2⟩, _⟩, _, hr9⟩ := L9.out
    obtain ⟨f0, f1, f2, f3⟩ := formCells hr9
    clear hr9
    go_wp2_with fail
    go_ret
    exact ⟨by rw [HR.out]; rfl, L9.out.1.2.2⟩
  · have LF : LayTF w w.heap.size w1.heap.size k l s f mn mx false (w1.alloc (.cells #[.string f, .int .i64 mn, .int .i64 mx, .bool false] 114)) := by
      have h0 := HB0.out.drew
      have h1 : Below w.heap.size w w1 := h0.trans (B1.out.mono h0.size)
      have hw1 : W0.heap.size ≤ w1.heap.size := B1.out.size
      have hl1 : Lay1 w w.heap.size k l s w1 := ⟨⟨d0, d1, d2⟩, Nat.lt_of_lt_of_le hlt0 hw1, h1⟩
      exact ⟨hl1.alloc _, by simp, heap_alloc_new _ _⟩
    generalize w1.alloc (.cells #[.string f, .int .i64 mn, .int .i64 mx, .bool false] 114) = W2 at LF ⊢
    generalize w1.heap.size = q at LF ⊢
    have HLF := Lib.hid LF
    obtain ⟨⟨⟨c0', c1', c2'⟩, _⟩, _, hrq⟩ := LF
    obtain ⟨f0, f1, f2, f3⟩ := formCells hrq
    clear hrq c0 c1 c2 hcw hfw d0 d1 d2 q1 q2
    go_wp2_with fail
    refine (implFits f mn mx false k l s _ true HF.out).mono ?_
    rintro e w9 ⟨rfl, b9⟩
    have L9 := Lib.hid (HLF.out.below b9)
    clear c0' c1' c2' f0 f1 f2 f3 b9
    obtain ⟨⟨⟨c0, c1, c2⟩, _⟩, _, hr9⟩ := L9.out
    obtain ⟨f0, f1, f2, f3⟩ := formCells hr9
    clear hr9
    go_wp2_with fail
    go_ret
    exact ⟨by rw [HR.out]; rfl, L9.out.1.2.2⟩
  · have LF : LayTF w w.heap.size W0.heap.size k l s f mn mx false ((((w1.setCell ⟨W0.heap.size, 0, none⟩ (.string f)).setCell ⟨W0.heap.size, 1, none⟩ (.int .i64 mn)).setCell ⟨W0.heap.size, 2, none⟩ (.int .i64 mx)).setCell ⟨W0.heap.size, 3, none⟩ (.bool false)) := by
      have h0 := HB0.out.drew
      have h0a := h0.alloc h0.size (.cells #[.string ⟨#[]⟩, .int .i64 0, .int .i64 0, .bool false] 114)
      have h1 : Below w.heap.size w w1 := h0a.trans (B1.out.mono h0a.size)
      have hw1 : W0.heap.size + 1 ≤ w1.heap.size := by have := B1.out.size; simpa using this
      have hq : w.heap.size ≤ W0.heap.size := Nat.le_of_lt hlt0
      have hl1 : Lay1 w w.heap.size k l s w1 := ⟨⟨d0, d1, d2⟩, by omega, h1⟩
      have hrow : w1.heap[W0.heap.size]? = some (.cells #[.string ⟨#[]⟩, .int .i64 0, .int .i64 0, .bool false] 114 (0, 0)) := (B1.out.block W0.heap.size (by simp)).trans (heap_alloc_new W0.drew _)
      exact LayTF.set4 hl1 hrow (by omega) hq
    generalize (((w1.setCell ⟨W0.heap.size, 0, none⟩ (.string f)).setCell ⟨W0.heap.size, 1, none⟩ (.int .i64 mn)).setCell ⟨W0.heap.size, 2, none⟩ (.int .i64 mx)).setCell ⟨W0.heap.size, 3, none⟩ (.bool false) = W2 at LF ⊢
    generalize W0.heap.size = q at LF ⊢
    have HLF := Lib.hid LF
    obtain ⟨⟨⟨c0', c1', c2'⟩, _⟩, _, hrq⟩ := LF
    obtain ⟨f0, f1, f2, f3⟩ := formCells hrq
    clear hrq c0 c1 c2 hcw hfw d0 d1 d2 q1 q2
    go_wp2_with fail
    refine (implFits f mn mx false k l s _ true HF.out).mono ?_
    rintro e w9 ⟨rfl, b9⟩
    have L9 := Lib.hid (HLF.out.below b9)
    clear c0' c1' c2' f0 f1 f2 f3 b9
    obtain ⟨⟨⟨c0, c1, c2⟩, _⟩, _, hr9⟩ := L9.out
    obtain ⟨f0, f1, f2, f3⟩ := formCells hr9
    clear hr9
    go_wp2_with fail
    go_ret
    exact ⟨by rw [HR.out]; rfl, L9.out.1.2.2⟩

end Go.Proofs.YtpdcmmhhgnackaaGreatDoor
