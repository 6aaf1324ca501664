/- The walk of FnChain. -/
import Derived.Test.YtgnillmhpockkaaGreatDoorMTxtJ
import Derived.Test.YtgnillmhpockkaaGreatDoorMLawBase
import Derived.Test.YtgnillmhpockkaaGreatDoorMOkW
import Derived.Test.YtgnillmhpockkaaGreatDoorMExprN
import Derived.Test.YtgnillmhpockkaaGreatDoorMLawExprW
namespace Go.Proofs.YtgnillmhpockkaaGreatDoor
open Go.ChangeShapes Go.WideShapes Go.ChangeAt Go.RowKit

/-- So many with one sign between. -/
def chainE (K : Int) : Nat → Ex
  | 0 => .mk 1 (txt []) 0 []
  | i + 1 => .mk K (txt []) 0 [chainE K i, .mk 1 (txt []) ((i : Int) + 1) []]

def kindAt : Nat → Int
  | 0 => 8
  | 1 => 9
  | 2 => 16
  | 3 => 17
  | _ => 18

theorem kindAt_ok : ∀ k, k < 5 → kidsK (kindAt k) = 2 ∧ bindsK (kindAt k) ≠ 4 ∧ kindAt k ∈ ([8, 9, 10, 11, 12, 13, 14, 15, 16, 17, 18] : List Int) ∧ firstK (kindAt k) = bindsK (kindAt k) ∧ i64E (kindAt k) ∧ bindsK (kindAt k) ≤ 6 := by
  intro k hk
  have : k = 0 ∨ k = 1 ∨ k = 2 ∨ k = 3 ∨ k = 4 := by omega
  rcases this with rfl | rfl | rfl | rfl | rfl <;> (unfold i64E; decide)

theorem chain_nodes (K : Int) : ∀ i, (chainE K i).nodes = 2 * i + 1
  | 0 => by rw [chainE, Ex.nodes_eq]; show 1 + nodesL [] = _; rw [nodesL]
  | i + 1 => by
    have ih := chain_nodes K i
    rw [chainE, Ex.nodes_eq]
    show 1 + nodesL [chainE K i, .mk 1 (txt []) ((i : Int) + 1) []] = _
    rw [nodesL, nodesL, nodesL, ih, Ex.nodes_eq]
    show 1 + (2 * i + 1 + (1 + nodesL [] + 0)) = _
    rw [nodesL]
    omega

theorem txt_no : (txt []).toList.isEmpty = true := by rw [Lib.toList_data]; rfl

theorem num_shape {n : Int} (h0 : 0 ≤ n) (h1 : n ≤ 999999999) : shapeE (.mk 1 (txt []) n []) = true := by
  rw [shapeE, Bool.and_eq_true]
  refine ⟨?_, by rw [shapeL]⟩
  unfold node1
  rw [if_neg (by decide), if_neg (by decide), if_pos rfl, txt_no, decide_eq_true (show 0 ≤ n ∧ n ≤ 999999999 from ⟨h0, h1⟩)]
  decide

theorem two_shape {k : Nat} (hk : k < 5) : node1 (kindAt k) (txt []) 0 2 = true := by
  have : k = 0 ∨ k = 1 ∨ k = 2 ∨ k = 3 ∨ k = 4 := by omega
  rcases this with rfl | rfl | rfl | rfl | rfl <;> (unfold node1; rw [if_neg (by decide), if_neg (by decide), txt_no, if_neg (by decide)]; decide)

theorem chain_shape {k : Nat} (hk : k < 5) : ∀ i, i ≤ 1000 → shapeE (chainE (kindAt k) i) = true
  | 0, _ => by rw [chainE]; exact num_shape (by omega) (by omega)
  | i + 1, hi => by
    have ih := chain_shape hk i (by omega)
    have h1 := num_shape (n := (i : Int) + 1) (by omega) (by omega)
    rw [chainE, shapeE, Bool.and_eq_true]
    exact ⟨two_shape hk, by rw [shapeL, shapeL, shapeL, ih, h1]; rfl⟩

theorem chain_text {k : Nat} (hk : k < 5) (i : Nat) : tE (chainE (kindAt k) (i + 1)) 1 = tE (chainE (kindAt k) i) 1 ++ txt [32] ++ txt (signK (kindAt k)) ++ txt [32] ++ dec ((i : Int) + 1) := by
  obtain ⟨h1, h2, h3, h4, h5, h6⟩ := kindAt_ok k hk
  rw [chainE, tE_two h3, h4, ← tE_num (txt []) ((i : Int) + 1)]
  have e1 : tE (chainE (kindAt k) i) (bindsK (kindAt k)) = tE (chainE (kindAt k) i) 1 := by
    refine tE_out ?_
    cases i with
    | zero => rw [chainE]; show ¬ 7 < bindsK (kindAt k); omega
    | succ i => rw [chainE]; exact Nat.lt_irrefl _
  have e2 : tE (.mk 1 (txt []) ((i : Int) + 1) []) (bindsK (kindAt k) + 1) = tE (.mk 1 (txt []) ((i : Int) + 1) []) 1 := by
    refine tE_out ?_
    show ¬ 7 < bindsK (kindAt k) + 1
    omega
  rw [e1, e2]

set_option maxRecDepth 100000 in
set_option maxHeartbeats 1000000 in
theorem lawsAt (a : Option Addr) (c : Nat) (l : List UInt8) (w : World) (hb : Bytes w a c l) (hl : l.length ≤ 1048576) (i : Nat) (hi : i ≤ 10) :
    Calls Tryz.prog 24 #[.slice a l.length c, .int .i64 (i : Int)] w fun e w' => ∃ x : Nat, e = .returned (.int .i64 (x : Int)) ∧ x ≤ 255 ∧ w = w' := by
  by_cases hlt : i < l.length
  · obtain ⟨b, off, rfl, hbl, hc⟩ := hb.2.2.2 (by omega)
    have hc0 := hc i hlt
    have hx : l[i].toNat < 256 := l[i].toBitVec.isLt
    have h0 : (0 : Int) ≤ (i : Int) := by omega
    have h1 : (i : Int) < (l.length : Int) := by omega
    have hw : IntKind.i64.wrap (l[i].toNat : Int) = (l[i].toNat : Int) := IntWalk.i64_in _ (by omega)
    clear hc hb
    generalize l[i].toNat = x at *
    go_enter Tryz.func24, Tryz.ntmps24
    go_wp2_with fail
    go_ret
    exact ⟨x, rfl, by omega, rfl⟩
  · go_enter Tryz.func24, Tryz.ntmps24
    go_wp2_with fail
    go_ret
    exact ⟨(i * 7 + l.length) % 256, by congr 2, by omega, rfl⟩

theorem dec_zero : dec 0 = ⟨#[48]⟩ := by
  unfold dec
  rw [show Lib.itoa 0 = [48] by unfold Lib.itoa; rw [if_neg (by decide)]; exact Lib.decDigits_one (i := 0) (by decide)]

/-- What stands in the loop. -/
structure CH (w : World) (b4 b5 X : Nat) (e : Ex) (a : Option Addr) (c d : Nat) (W : World) : Prop where
  x : ExRow W X e.kind e.text e.num (.slice a e.kids.length c)
  kx : KidsQ (fun b => b ≠ X) W d a c e.kids
  sg : W.heap[b4]? = some (.cells #[.string ⟨#[97, 110, 100]⟩, .string ⟨#[111, 114]⟩, .string ⟨#[43]⟩, .string ⟨#[45]⟩, .string ⟨#[42]⟩] 9 (0, 0))
  kd : W.heap[b5]? = some (.cells #[.int .i64 8, .int .i64 9, .int .i64 16, .int .i64 17, .int .i64 18] 3 (0, 0))
  bel : Below w.heap.size w W
  lo : w.heap.size ≤ X
  n4 : b4 ≠ X
  n5 : b5 ≠ X
  fit : e.fit

theorem heap_ltC {W : World} {b : Nat} {o : Obj} (h : W.heap[b]? = some o) : b < W.heap.size := by
  rcases Nat.lt_or_ge b W.heap.size with h' | h'
  · exact h'
  · rw [Array.getElem?_eq_none h'] at h; cases h

theorem CH.below {w : World} {b4 b5 X : Nat} {e : Ex} {a : Option Addr} {c d : Nat} {W W' : World} (h : CH w b4 b5 X e a c d W) (hb : Below W.heap.size W W') : CH w b4 b5 X e a c d W' :=
  ⟨h.x.below hb, h.kx.agree hb.size fun b _ hl o => hb.cell (p := ⟨b, o, none⟩) hl, (hb.block b4 (heap_ltC h.sg)).trans h.sg, (hb.block b5 (heap_ltC h.kd)).trans h.kd, h.bel.trans (hb.mono h.bel.size), h.lo, h.n4, h.n5, h.fit⟩

theorem CH.sign {w : World} {b4 b5 X : Nat} {e : Ex} {a : Option Addr} {c d : Nat} {W : World} (h : CH w b4 b5 X e a c d W) {k : Nat} (hk : k < 5) : W.cell? ⟨b4, k, none⟩ = some (.string (txt (signK (kindAt k)))) := by
  rw [cell_of_row _ _ _ _ _ _ h.sg]
  have : k = 0 ∨ k = 1 ∨ k = 2 ∨ k = 3 ∨ k = 4 := by omega
  rcases this with rfl | rfl | rfl | rfl | rfl <;> rfl

theorem CH.kind {w : World} {b4 b5 X : Nat} {e : Ex} {a : Option Addr} {c d : Nat} {W : World} (h : CH w b4 b5 X e a c d W) {k : Nat} (hk : k < 5) : W.cell? ⟨b5, k, none⟩ = some (.int .i64 (kindAt k)) := by
  rw [cell_of_row _ _ _ _ _ _ h.kd]
  have : k = 0 ∨ k = 1 ∨ k = 2 ∨ k = 3 ∨ k = 4 := by omega
  rcases this with rfl | rfl | rfl | rfl | rfl <;> rfl

/-- One round more. -/
theorem CH.step {w : World} {b4 b5 X : Nat} {e : Ex} {a : Option Addr} {c d : Nat} {W : World} (h : CH w b4 b5 X e a c d W) {K m : Int} (hK : i64E K) (hm : i64E m) {W' : World}
    (hW : W' = ((((((W.setCell ⟨X, 0, none⟩ (.int .i64 K)).setCell ⟨X, 1, none⟩ (.string ⟨#[]⟩)).setCell ⟨X, 2, none⟩ (.int .i64 0)).setCell ⟨X, 3, none⟩ (.slice (some ⟨W.heap.size, 0, none⟩) 2 2)).alloc (.cells #[.int .i64 e.kind, .string e.text, .int .i64 e.num, .slice a e.kids.length c, .int .i64 1, .string ⟨#[]⟩, .int .i64 m, .slice none 0 0] 32)).drew)) :
    CH w b4 b5 X (.mk K (txt []) 0 [e, .mk 1 (txt []) m []]) (some ⟨W.heap.size, 0, none⟩) 2 (d + 2) W' := by
  have hXl := h.x.lt
  obtain ⟨V, hV⟩ : ∃ V, V = (((W.setCell ⟨X, 0, none⟩ (.int .i64 K)).setCell ⟨X, 1, none⟩ (.string ⟨#[]⟩)).setCell ⟨X, 2, none⟩ (.int .i64 0)).setCell ⟨X, 3, none⟩ (.slice (some ⟨W.heap.size, 0, none⟩) 2 2) := ⟨_, rfl⟩
  rw [← hV] at hW
  have hxV : ExRow V X K ⟨#[]⟩ 0 (.slice (some ⟨W.heap.size, 0, none⟩) 2 2) := by rw [hV]; exact (((h.x.set0 _).set1 _).set2 _).set3 _
  have hVs : V.heap.size = W.heap.size := by rw [hV]; simp [World.setCell]
  have hVb : ∀ b, b ≠ X → V.heap[b]? = W.heap[b]? := by
    intro b hb
    rw [hV, Below.heap_setCell _ _ _ _ hb, Below.heap_setCell _ _ _ _ hb, Below.heap_setCell _ _ _ _ hb, Below.heap_setCell _ _ _ _ hb]
  have hVB : Below w.heap.size w V := by
    have hlo := h.lo
    rw [hV]
    exact (((h.bel.setCell (p := ⟨X, 0, none⟩) hlo _).setCell (p := ⟨X, 1, none⟩) hlo _).setCell (p := ⟨X, 2, none⟩) hlo _).setCell (p := ⟨X, 3, none⟩) hlo _
  have hk : KidsQ (fun b => b ≠ X) V d a c e.kids := h.kx.agree (by omega) fun b hb _ o => by
    unfold World.cell?
    simp only [hVb b hb]
  have hb1 : Below V.heap.size V W' := by rw [hW]; exact below_drewE ((Below.refl _ _).alloc (Nat.le_refl _) _)
  have hnew : W'.heap[W.heap.size]? = some (.cells #[.int .i64 e.kind, .string e.text, .int .i64 e.num, .slice a e.kids.length c, .int .i64 1, .string ⟨#[]⟩, .int .i64 m, .slice none 0 0] 32 (0, 0)) := by
    rw [hW, ← hVs]
    exact heap_alloc_new V _
  have hWs : W.heap.size < W'.heap.size := heap_ltC hnew
  have hk' : KidsQ (fun b => b ≠ X) W' (d + 1) a c e.kids := KidsQ.mono (Nat.le_succ d) (hk.agree hb1.size fun b _ hl o => hb1.cell (p := ⟨b, o, none⟩) hl)
  have hf : (Ex.mk 1 (txt []) m []).fit := ⟨by unfold maxLen; exact Nat.zero_le _, by show i64E 1; unfold i64E; omega, hm⟩
  refine ⟨hxV.below hb1, ⟨Nat.le_refl _, by unfold maxLen; omega, (fun h => by cases h), fun _ => ⟨W.heap.size, 0, rfl, by omega, hWs, fun i hi => ?_⟩⟩, ?_, ?_, hVB.trans (hb1.mono hVB.size), h.lo, h.n4, h.n5, ⟨by unfold maxLen; exact Nat.zero_le _, hK, by show i64E 0; unfold i64E; omega⟩⟩
  · have hi2 : i = 0 ∨ i = 1 := by have : i < 2 := hi; omega
    rcases hi2 with rfl | rfl
    · refine ⟨?_, ?_, ?_, h.fit, a, c, ?_, hk'⟩ <;> (rw [cell_of_row _ _ _ _ _ _ hnew]; rfl)
    · refine ⟨?_, ?_, ?_, hf, none, 0, ?_, ⟨Nat.le_refl _, by unfold maxLen; omega, fun _ => rfl, fun h => absurd h (by show ¬ 0 < 0; omega)⟩⟩ <;> (rw [cell_of_row _ _ _ _ _ _ hnew]; rfl)
  · exact (hb1.block b4 (by have := heap_ltC h.sg; omega)).trans ((hVb b4 h.n4).trans h.sg)
  · exact (hb1.block b5 (by have := heap_ltC h.kd; omega)).trans ((hVb b5 h.n5).trans h.kd)

set_option maxRecDepth 100000 in
set_option maxHeartbeats 4000000 in
theorem walkFnChain (a : Option Addr) (c : Nat) (l : List UInt8) (w : World) (hb : Bytes w a c l) (hL : laidMetH Tryz.prog Rows.fnChainRow.laid w) :
    Calls Tryz.prog 7 #[.slice a l.length c] w fun e w' => e = .returned (.bool true) ∧ Below w.heap.size w w' := by
  by_cases hbig : 1048576 < l.length
  · clear hL
    go_enter Tryz.func7, Tryz.ntmps7
    go_wp2_with (go_at_call 8; refine (lawsBigYes _ _ _ _ hbig).mono ?_; rintro e w' ⟨rfl, rfl⟩)
    go_ret
    exact ⟨rfl, Below.refl _ _⟩
  · rw [MakeChecks.laidMetH_plain _ _ _ (by kernel_rfl)] at hL
    obtain ⟨p, hG, hT⟩ := rg_of hL
    have HG := Lib.hid (fun W (hB : Below w.heap.size w W) => hG.below hB hG.big)
    have HT := Lib.hid (fun W (hB : Below w.heap.size w W) => hT.below hB hT.big)
    have HLEX : Hid (∀ W s, s.size ≤ 1048576 → Below w.heap.size w W → Calls Tryz.prog 14 #[.string s] W (LexAns s W)) := fun W s hs hB => implLex s W hs _ p (HG.out W hB).glob (by have h1 := hG.big; have h2 := hB.size; omega)
    have HBY := Lib.hid hb
    clear hL hT hG hb
    go_enter Tryz.func7, Tryz.ntmps7
    go_wp2_with (go_at_call 8; refine (lawsBigNo _ _ _ _ (by omega)).mono ?_; rintro e w' ⟨rfl, rfl⟩)
    refine (lawsAt a c l _ HBY.out (by omega) 0 (by omega)).mono ?_
    rintro e w1 ⟨x, rfl, hx, rfl⟩
    go_wp2_with fail
    obtain ⟨N, hN⟩ : ∃ N : Nat, 1 + (x : Int) % 15 = (N : Int) := ⟨1 + x % 15, by omega⟩
    have hN15 : N ≤ 15 := by omega
    rw [hN]
    have hb1 : Below w.heap.size w ((w.alloc (.cells #[.string ⟨#[97, 110, 100]⟩, .string ⟨#[111, 114]⟩, .string ⟨#[43]⟩, .string ⟨#[45]⟩, .string ⟨#[42]⟩] 9)).alloc (.cells #[.int .i64 8, .int .i64 9, .int .i64 16, .int .i64 17, .int .i64 18] 3)) := ((Below.refl _ _).alloc (Nat.le_refl _) _).alloc (by simp) _
    refine (lawsAt a c l _ (HBY.out.below hb1) (by omega) 1 (by omega)).mono ?_
    rintro e w1 ⟨y, rfl, hy, rfl⟩
    obtain ⟨k, hk⟩ : ∃ k : Nat, (y : Int) % 5 = (k : Int) := ⟨y % 5, by omega⟩
    have hk5 : k < 5 := by omega
    have HC0 : Hid (CH w w.heap.size (w.heap.size + 1) (w.heap.size + 1 + 1) (chainE (kindAt k) 0) none 0 1 (((w.alloc (.cells #[.string ⟨#[97, 110, 100]⟩, .string ⟨#[111, 114]⟩, .string ⟨#[43]⟩, .string ⟨#[45]⟩, .string ⟨#[42]⟩] 9)).alloc (.cells #[.int .i64 8, .int .i64 9, .int .i64 16, .int .i64 17, .int .i64 18] 3)).alloc (.cells #[.int .i64 1, .string ⟨#[]⟩, .int .i64 0, .slice none 0 0] 32))) := by
      have s1 := size_allocE w (.cells #[.string ⟨#[97, 110, 100]⟩, .string ⟨#[111, 114]⟩, .string ⟨#[43]⟩, .string ⟨#[45]⟩, .string ⟨#[42]⟩] 9)
      have s2 := size_allocE (w.alloc (.cells #[.string ⟨#[97, 110, 100]⟩, .string ⟨#[111, 114]⟩, .string ⟨#[43]⟩, .string ⟨#[45]⟩, .string ⟨#[42]⟩] 9)) (.cells #[.int .i64 8, .int .i64 9, .int .i64 16, .int .i64 17, .int .i64 18] 3)
      have g1 := heap_alloc_new w (.cells #[.string ⟨#[97, 110, 100]⟩, .string ⟨#[111, 114]⟩, .string ⟨#[43]⟩, .string ⟨#[45]⟩, .string ⟨#[42]⟩] 9)
      have g2 := heap_alloc_new (w.alloc (.cells #[.string ⟨#[97, 110, 100]⟩, .string ⟨#[111, 114]⟩, .string ⟨#[43]⟩, .string ⟨#[45]⟩, .string ⟨#[42]⟩] 9)) (.cells #[.int .i64 8, .int .i64 9, .int .i64 16, .int .i64 17, .int .i64 18] 3)
      have b2 := (Below.refl (w.alloc (.cells #[.string ⟨#[97, 110, 100]⟩, .string ⟨#[111, 114]⟩, .string ⟨#[43]⟩, .string ⟨#[45]⟩, .string ⟨#[42]⟩] 9)).heap.size (w.alloc (.cells #[.string ⟨#[97, 110, 100]⟩, .string ⟨#[111, 114]⟩, .string ⟨#[43]⟩, .string ⟨#[45]⟩, .string ⟨#[42]⟩] 9))).alloc (Nat.le_refl _) (.cells #[.int .i64 8, .int .i64 9, .int .i64 16, .int .i64 17, .int .i64 18] 3)
      have g1' := (b2.block w.heap.size (by omega)).trans g1
      rw [s1] at g2
      generalize (w.alloc (.cells #[.string ⟨#[97, 110, 100]⟩, .string ⟨#[111, 114]⟩, .string ⟨#[43]⟩, .string ⟨#[45]⟩, .string ⟨#[42]⟩] 9)).alloc (.cells #[.int .i64 8, .int .i64 9, .int .i64 16, .int .i64 17, .int .i64 18] 3) = W at *
      have b3 := (Below.refl W.heap.size W).alloc (Nat.le_refl _) (.cells #[.int .i64 1, .string ⟨#[]⟩, .int .i64 0, .slice none 0 0] 32)
      have hx := exRow_new W 1 ⟨#[]⟩ 0 (.slice none 0 0)
      have hs : W.heap.size = w.heap.size + 2 := by omega
      rw [hs] at hx
      refine ⟨hx, ⟨Nat.le_refl _, by unfold maxLen; omega, fun _ => rfl, fun h => absurd h (by simp [chainE, Ex.kids])⟩, (b3.block _ (by omega)).trans g1', (b3.block _ (by omega)).trans g2, hb1.trans (b3.mono hb1.size), by omega, by omega, by omega, ⟨by unfold maxLen; exact Nat.zero_le _, by show i64E 1; unfold i64E; omega, by show i64E 0; unfold i64E; omega⟩⟩
    have HS0 : Hid (tE (chainE (kindAt k) 0) 1 = ⟨#[48]⟩) := by unfold Hid; rw [chainE, tE_num, dec_zero]
    clear hN hb1 hx hy
    go_wp2_with fail
    generalize ((w.alloc (.cells #[.string ⟨#[97, 110, 100]⟩, .string ⟨#[111, 114]⟩, .string ⟨#[43]⟩, .string ⟨#[45]⟩, .string ⟨#[42]⟩] 9)).alloc (.cells #[.int .i64 8, .int .i64 9, .int .i64 16, .int .i64 17, .int .i64 18] 3)).alloc (.cells #[.int .i64 1, .string ⟨#[]⟩, .int .i64 0, .slice none 0 0] 32) = W1 at HC0 ⊢
    rw [hk]
    go_loopw [7, 9] (fun s i wr => ∃ (j m : Nat) (ak : Option Addr) (ck d : Nat), m = j + 1 ∧ j ≤ N ∧ i = .int .i64 (m : Int) ∧ s = .string (tE (chainE (kindAt k) j) 1) ∧ Hid (CH w w.heap.size (w.heap.size + 1) (w.heap.size + 1 + 1) (chainE (kindAt k) j) ak ck d wr)) (fun _ i _ => 20 - (intOf i).toNat)
    case atStart => exact ⟨0, 1, none, 0, 1, rfl, Nat.zero_le _, rfl, by rw [HS0.out], HC0.out⟩
    case round =>
      obtain ⟨j, m, ak, ck, d, hm, hj, rfl, rfl, HC⟩ := hrel
      have HM := Lib.hid hm
      have hsh := chain_shape hk5 j (by omega)
      have hnd := chain_nodes (kindAt k) j
      have hS8 := tE_size (L := 1) hsh (by omega)
      by_cases hlt : (m : Int) ≤ (N : Int)
      · have HTX := Lib.hid (chain_text hk5 j)
        have hG3 := (sign_no (kindAt_ok k hk5).2.2.1).2.2
        have HD : Hid ((⟨(Lib.decDigits m).toArray⟩ : ByteArray) = dec ((j : Int) + 1)) := by unfold Hid dec; rw [show ((j : Int) + 1) = (m : Int) by omega, itoa_natB]
        have hD8 : (⟨(Lib.decDigits m).toArray⟩ : ByteArray).size ≤ 8400 := by
          have h := tE_size (L := 1) (num_shape (n := (j : Int) + 1) (by omega) (by omega)) (by rw [Ex.nodes_eq]; show 1 + nodesL [] ≤ 40; rw [nodesL]; omega)
          rw [tE_num] at h
          rw [HD.out]
          exact h
        have hG3' : (txt (signK (kindAt k))).size ≤ 3 := by rw [txt_size]; exact hG3
        have c4 := HC.out.sign hk5
        have HCE := HC
        have hk0 : (0 : Int) ≤ (k : Int) := by omega
        have hk1 : (k : Int) < 5 := by omega
        obtain ⟨E, hE⟩ : ∃ E, E = chainE (kindAt k) j := ⟨_, rfl⟩
        have HE := Lib.hid hE
        rw [← hE] at HC HCE HTX hsh hS8
        obtain ⟨S, hS⟩ : ∃ S, S = tE E 1 := ⟨_, rfl⟩
        have HSS := Lib.hid hS
        rw [← hE, ← hS]
        rw [← hS] at hS8 HTX
        obtain ⟨Gs, hGs⟩ : ∃ Gs, Gs = txt (signK (kindAt k)) := ⟨_, rfl⟩
        have HGS := Lib.hid hGs
        rw [← hGs] at c4 hG3' HTX
        obtain ⟨D, hD⟩ : ∃ D : ByteArray, D = ⟨(Lib.decDigits m).toArray⟩ := ⟨_, rfl⟩
        have HDT : Hid (∀ W, Calls Tryz.prog 25 #[.int .i64 (m : Int)] W fun e w' => e = .returned (.string D) ∧ W = w') := fun W => by rw [hD]; exact specDecPos m W (by omega) (by omega)
        rw [← hD] at HD hD8
        obtain ⟨K, hK⟩ : ∃ K, K = kindAt k := ⟨_, rfl⟩
        have HKK := Lib.hid hK
        obtain ⟨p1, hp1⟩ : ∃ p1, p1 = S ++ (ByteArray.mk #[32]) := ⟨_, rfl⟩
        obtain ⟨p2, hp2⟩ : ∃ p2, p2 = p1 ++ Gs := ⟨_, rfl⟩
        obtain ⟨p3, hp3⟩ : ∃ p3, p3 = p2 ++ (ByteArray.mk #[32]) := ⟨_, rfl⟩
        obtain ⟨p4, hp4⟩ : ∃ p4, p4 = p3 ++ D := ⟨_, rfl⟩
        have l1 : (ByteArray.mk #[32]).size = 1 := rfl
        have z1 : p1.size ≤ 8401 := by rw [hp1, ByteArray.size_append]; omega
        have z2 : p2.size ≤ 8404 := by rw [hp2, ByteArray.size_append]; omega
        have z3 : p3.size ≤ 8405 := by rw [hp3, ByteArray.size_append]; omega
        have ad1 : ∀ w, (Op.stringOp .add S (ByteArray.mk #[32])).run Tryz.prog w = .ok (.string p1) w := fun w => by rw [hp1]; exact run_string_add_sum w _ _ (by omega)
        have ad2 : ∀ w, (Op.stringOp .add p1 Gs).run Tryz.prog w = .ok (.string p2) w := fun w => by rw [hp2]; exact run_string_add_sum w _ _ (by omega)
        have ad3 : ∀ w, (Op.stringOp .add p2 (ByteArray.mk #[32])).run Tryz.prog w = .ok (.string p3) w := fun w => by rw [hp3]; exact run_string_add_sum w _ _ (by omega)
        have ad4 : ∀ w, (Op.stringOp .add p3 D).run Tryz.prog w = .ok (.string p4) w := fun w => by rw [hp4]; exact run_string_add_sum w _ _ (by omega)
        have HP4 : Hid (p4 = tE (chainE (kindAt k) (j + 1)) 1) := by
          unfold Hid
          rw [HTX.out, ← HD.out, hp4, hp3, hp2, hp1]
          rfl
        clear hp1 hp2 hp3 hp4 HTX
        clear hE hS hGs hD hK hsh hnd hG3 hm
        go_wp2_with fail
        go_region_held3 (fun p => p.cell? ⟨w.heap.size, k, none⟩ = some (.string Gs)) (first | go_keep | assumption) ((go_at_call 25; refine (HDT.out _).mono ?_; rintro e w' ⟨rfl, rfl⟩))
        have HCD := Lib.hid (HC.out.below (below_drewE (Below.refl _ _)))
        clear c4
        go_wp2_with fail
        generalize wr.drew = W2 at HCD ⊢
        have c5 := HCD.out.kind hk5
        rw [← HKK.out] at c5
        obtain ⟨x0, x1, x2, x3, xf⟩ := HCD.out.x.cells
        have hl5 : w.heap.size + 1 < W2.heap.size := heap_ltC HCD.out.kd
        have hlX : w.heap.size + 1 + 1 < W2.heap.size := HCD.out.x.lt
        have HCX := Lib.hid (HCD.out.below (below_drewE (Below.refl _ _)))
        have HST := Lib.hid (HCD.out.step (K := K) (m := (m : Int)) (by rw [HKK.out]; exact (kindAt_ok k hk5).2.2.2.2.1) (by unfold i64E; omega) rfl)
        have HEQ : Hid (Ex.mk K (txt []) 0 [E, .mk 1 (txt []) (m : Int) []] = chainE (kindAt k) (j + 1)) := by
          unfold Hid
          rw [chainE, ← HE.out, ← HKK.out, show ((j : Int) + 1) = (m : Int) by have := HM.out; omega]
        go_region
        go_wp2_with fail
        go_roundw
        case rel => exact ⟨j + 1, m + 1, some ⟨W2.heap.size, 0, none⟩, 2, d + 2, by rw [HM.out], by have := HM.out; omega, by go_num, by rw [HP4.out], by rw [← HEQ.out]; exact HST.out⟩
        case measure => simp [intOf]; omega
      · obtain ⟨E, hE⟩ : ∃ E, E = chainE (kindAt k) j := ⟨_, rfl⟩
        have hn40 : E.nodes ≤ 40 := by rw [hE]; omega
        rw [← hE] at HC hsh hS8
        obtain ⟨S, hS⟩ : ∃ S, S = tE E 1 := ⟨_, rfl⟩
        rw [← hE, ← hS]
        rw [← hS] at hS8
        have hput : Hid (putT E = S) := by unfold Hid putT; rw [if_pos (by rw [Bool.and_eq_true, decide_eq_true_eq]; exact ⟨hn40, hsh⟩), hS]
        have hSs : S.size ≤ 1048576 := by omega
        obtain ⟨ts, h1, h2, h3⟩ := parse_text hsh hn40
        rw [← hS] at h1
        obtain ⟨xs, hxs⟩ : ∃ xs, xs = ts.map tkOf := ⟨_, rfl⟩
        have I1 : Hid (∀ W, Below w.heap.size w W → Calls Tryz.prog 14 #[.string S] W fun e w' => ∃ a c, e = .returned (.tuple #[.slice a xs.length c, .int .i64 (-1)]) ∧ OwnT w' W.heap.size a c xs ∧ Below W.heap.size W w') := fun W hB => (HLEX.out W S hSs hB).mono fun _ _ => lexOk h1 hxs
        have hfit : FitsT xs := by have := (toks_fit S hSs).1; unfold toks at this; rw [h1] at this; rw [hxs]; exact this
        have HFW : Hid (xs.length ≤ 1000000) := by unfold Hid; have h4 := toks_few h1; have h5 : S.data.toList.length = S.size := (by simp); rw [hxs, List.length_map]; omega
        have HPI : Hid (parseI xs 0 = some (E, xs.length)) := by unfold Hid; rw [hxs]; exact h3
        have hnn : ((xs.length : Int) == (xs.length : Int)) = true := by simp
        have hss : (S.toList == S.toList) = true := by simp
        have HN : Hid (E.nodes ≤ 1073741824) := by unfold Hid; omega
        clear h1 h2 h3 hxs hE hS hsh hn40 hS8 hnd hm HLEX
        obtain ⟨x0, x1, x2, x3, xf⟩ := HC.out.x.cells
        go_wp2_with fail
        refine (I1.out _ HC.out.bel).mono ?_
        rintro q w5 ⟨a5, c5, rfl, own5, b5⟩
        have L5 := Lib.hid (HC.out.below b5)
        have T5 := Lib.hid (own5.toks hfit)
        clear own5 b5 x0 x1 x2 x3 xf I1
        have I2 := Lib.hid (show Calls Tryz.prog 15 #[.slice a5 xs.length c5, .int .i64 0] w5 (fun y w' => ∃ a c d6, y = .returned (.tuple #[.agg #[.int .i64 E.kind, .string E.text, .int .i64 E.num, .slice a E.kids.length c], .int .i64 (xs.length : Int)]) ∧ KidsAt w' d6 a c E.kids ∧ Below w5.heap.size w5 w') from (implParse _ p a5 c5 xs 0 w5 (HG.out _ L5.out.bel) T5.out HFW.out (by unfold i64E; omega)).mono (by
          rw [HPI.out]
          rintro y w6 ⟨a6, c6, rfl, ht6, b6⟩
          obtain ⟨d6, hk6⟩ := ht6.kids
          exact ⟨a6, c6, d6, rfl, hk6.at, b6⟩))
        go_wp2_with fail
        refine I2.out.mono ?_
        rintro q w6 ⟨a6, c6, d6, rfl, hk6, b6⟩
        have hbb := (Below.refl w6.heap.size w6).alloc (Nat.le_refl _) (.cells #[.int .i64 E.kind, .string E.text, .int .i64 E.num, .slice a6 E.kids.length c6] 32)
        have L6 := Lib.hid ((L5.out.below b6).below hbb)
        have K6 := Lib.hid (hk6.below hbb)
        have N6 := Lib.hid (box4_new w6 32 E a6 c6)
        clear b6 hk6 hbb L5 I2 T5
        obtain ⟨x0, x1, x2, x3, xf⟩ := L6.out.x.cells
        obtain ⟨n00, n0, n1, n2, n3⟩ := N6.out
        go_wp2_with fail
        refine (sameTwice E a6 ak c6 ck d6 d _ K6.out L6.out.kx.at).mono ?_
        rintro q w7 ⟨rfl, b7⟩
        have L7 := Lib.hid (L6.out.below b7)
        clear b7 x0 x1 x2 x3 xf n00 n0 n1 n2 n3
        obtain ⟨x0, x1, x2, x3, xf⟩ := L7.out.x.cells
        go_wp2_with fail
        refine (implPutExpr E ak ck d w7 (HT.out _ L7.out.bel) L7.out.fit L7.out.kx.at HN.out S hput.out).mono ?_
        rintro q w8 ⟨rfl, b8⟩
        have B8 := Lib.hid (L7.out.below b8).bel
        clear b8
        go_wp2_with fail
        go_ret
        exact ⟨rfl, B8.out⟩

end Go.Proofs.YtgnillmhpockkaaGreatDoor
