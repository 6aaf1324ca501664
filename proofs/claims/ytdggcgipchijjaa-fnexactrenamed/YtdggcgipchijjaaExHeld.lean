/- The laws' marks are found again in trees of expressions. -/
import Derived.Test.YtdggcgipchijjaaExMark
import Derived.Test.YtdggcgipchijjaaRenP
import Derived.Deep.RegionHeld3
namespace Go.Proofs.Ytdggcgipchijjaa
open Go.RowKit

def HeldP (d : Nat) : Prop := ∀ (a : Option Addr) (c : Nat) (kids : List Ex) (k : Nat) (w : World), KidsAt w d a c (markL k kids) → 1 ≤ k → k + 3 * nodesL kids ≤ 8388608 →
  Calls Try.prog 45 #[.slice a kids.length c, .int .i64 (k : Int)] w fun x w' => x = .returned (.int .i64 ((k + 3 * nodesL kids : Nat) : Int)) ∧ Below w.heap.size w w'

set_option maxRecDepth 100000 in
set_option maxHeartbeats 2000000 in
theorem heldKids : ∀ d, HeldP d
  | 0 => fun _ _ _ _ _ h => h.elim
  | d + 1 => by
    intro a c kids k w hk hk1 hk2
    have ih := heldKids d
    have hlm := markL_length k kids
    have hlen := hk.len
    rw [hlm] at hlen
    have HK := Lib.hid (fun w' hb => hk.below (w' := w') hb)
    clear hk
    go_enter Try.func45, Try.ntmps45
    go_wp2_with fail
    go_loopw [1, 5] (fun q i wr => ∃ j p : Nat, j ≤ kids.length ∧ i = .int .i64 j ∧ q = .int .i64 (p : Int) ∧ p ≤ 8388608 ∧ 1 ≤ p ∧ Hid (p = k + 3 * nodesL (kids.take j)) ∧ Below w.heap.size w wr) (fun _ i _ => kids.length - (intOf i).toNat)
    case atStart => exact ⟨0, k, Nat.zero_le _, rfl, rfl, by omega, hk1, by unfold Hid; simp [nodesL], Below.refl _ _⟩
    case round =>
      obtain ⟨j, p, hj, rfl, rfl, hpb, hp1, Hp, hb⟩ := hrel
      by_cases hlt : j < kids.length
      · have hjm : j < (markL k kids).length := by omega
        obtain ⟨b, off, rfl, hbl, hc0, hc1, hc2, hfit, ax, cx, hc3, hkid⟩ := (HK.out _ hb).spot hjm
        have hme : (markL k kids)[j] = markE p kids[j] := by rw [markL_at k kids j hlt hjm, Hp.out]
        rw [hme, markE_eq] at hc0 hc1 hc2 hc3 hkid
        simp only [Ex.kind, Ex.text, Ex.num] at hc0 hc1 hc2
        have hkl : (Ex.mk (p : Int) (markT (p + 1)) ((p + 2 : Nat) : Int) (markL (p + 3) kids[j].kids)).kids.length = kids[j].kids.length := markL_length _ _
        rw [hkl] at hc3
        have hkid' : KidsAt wr d ax cx (markL (p + 3) kids[j].kids) := hkid
        have HX := Lib.hid (fun w' hb => hkid'.below (w' := w') hb)
        have HNT : Hid (nodesL (kids.take (j + 1)) = nodesL (kids.take j) + kids[j].nodes) := nodesL_take kids j hlt
        have HNM : Hid (nodesL (kids.take (j + 1)) ≤ nodesL kids) := nodesL_takeM kids (j + 1)
        have HNE : Hid (kids[j].nodes = 1 + nodesL kids[j].kids) := Ex.nodes_eq _
        have hbk : Hid (p + 3 + 3 * nodesL kids[j].kids ≤ 8388608) := by have h1 := Hp.out; have h2 := HNT.out; have h3 := HNM.out; have h4 := HNE.out; unfold Hid; omega
        have hp3 : p + 3 ≤ 8388608 := by have := hbk.out; omega
        have hs : (!((markT (p + 1)).toList == (markT (p + 1)).toList)) = false := by simp
        have t0 : ((p : Int) != (p : Int)) = false := by simp
        have h0j : (0 : Int) ≤ (j : Int) := by omega
        have hjn : (j : Int) < (kids.length : Int) := by omega
        have hmt : Hid (∀ z : Int, z = ((p + 1 : Nat) : Int) → ∀ W, Calls Try.prog 44 #[.int .i64 z] W fun e w' => e = .returned (.string (markT (p + 1))) ∧ Below W.heap.size W w') := fun z hz W => by
          subst hz; exact markText (p + 1) W (by omega) (by omega)
        have hih : Hid (∀ z : Int, z = ((p + 3 : Nat) : Int) → ∀ W, KidsAt W d ax cx (markL (p + 3) kids[j].kids) → Calls Try.prog 45 #[.slice ax kids[j].kids.length cx, .int .i64 z] W fun x w' => x = .returned (.int .i64 ((p + 3 + 3 * nodesL kids[j].kids : Nat) : Int)) ∧ Below W.heap.size W w') := fun z hz W hW => by
          subst hz; exact ih _ _ _ (p + 3) W hW (by omega) hbk.out
        clear hkid hkid' hme hkl ih hlm hjm hfit
        go_wp2_with fail
        go_region_held3 (fun w' => w'.cell? ⟨b, off + j * 4 + 1, none⟩ = some (.string (markT (p + 1)))) (first | exact hc1 | exact (hb2.cell (p := ⟨b, off + j * 4 + 1, none⟩) hbl).trans hc1)
          (first | (go_at_call 44; refine (hmt.out _ (by omega) _).mono ?_; rintro e w2 ⟨rfl, hb2⟩))
        have HBB : Hid (Below w.heap.size w w2 ∧ Below wr.heap.size wr w2) := ⟨hb.drew.trans (hb2.mono hb.size), (Below.refl wr.heap.size wr).drew.trans hb2⟩
        have d2 : w2.cell? ⟨b, off + j * 4 + 2, none⟩ = some (.int .i64 ((p + 2 : Nat) : Int)) := (hb2.cell (p := ⟨b, off + j * 4 + 2, none⟩) hbl).trans hc2
        have d3 : w2.cell? ⟨b, off + j * 4 + 3, none⟩ = some (.slice ax kids[j].kids.length cx) := (hb2.cell (p := ⟨b, off + j * 4 + 3, none⟩) hbl).trans hc3
        simp only [Int.natCast_add, Int.cast_ofNat_Int] at d2
        have t2 : (((p : Int) + 2) != ((p : Int) + 1 + 1)) = false := by simp; omega
        have t3 : (((p : Int) + 2) != ((p : Int) + 2)) = false := by simp
        clear hb2 hc0 hc1 hc2 hc3 hb
        go_wp2_with fail
        refine (hih.out _ (by omega) _ (HX.out _ HBB.out.2)).mono ?_
        rintro x w3 ⟨rfl, hb3⟩
        have ht4 : decide (((p + 3 + 3 * nodesL kids[j].kids : Nat) : Int) < 0) = false := by simp; omega
        have HB3 := Lib.hid (HBB.out.1.trans (hb3.mono HBB.out.1.size))
        clear hb3 d2 d3
        obtain ⟨P, hP⟩ : ∃ P : Nat, P = p + 3 + 3 * nodesL kids[j].kids := ⟨_, rfl⟩
        rw [← hP] at ht4 ⊢
        have HP := Lib.hid hP
        clear hP
        go_wp2_with fail
        go_roundw
        case rel => exact ⟨j + 1, P, by omega, by go_num, rfl, by rw [HP.out]; exact hbk.out, by rw [HP.out]; omega, by have h1 := Hp.out; have h2 := HNT.out; have h4 := HNE.out; have h5 := HP.out; unfold Hid; omega, HB3.out⟩
        case measure => simp [intOf]; omega
      · obtain rfl : j = kids.length := by omega
        go_wp2_with fail
        go_ret
        have hpp := Hp.out
        rw [List.take_length] at hpp
        subst hpp
        exact ⟨rfl, hb⟩

set_option maxHeartbeats 1000000 in
theorem heldEx (e : Ex) (a : Option Addr) (c d : Nat) (w : World) (hk : KidsAt w d a c (markL 1 e.kids)) (hn : e.nodes ≤ 1048577) :
    Calls Try.prog 27 #[.agg #[.int .i64 e.kind, .string e.text, .int .i64 e.num, .slice a e.kids.length c], .int .i64 1] w fun x w' => x = .returned (.int .i64 ((1 + 3 * nodesL e.kids : Nat) : Int)) ∧ Below w.heap.size w w' := by
  have hne := Ex.nodes_eq e
  have HK := Lib.hid (hk.below ((Below.refl w.heap.size w).alloc (Nat.le_refl _) (.cells #[.int .i64 e.kind, .string e.text, .int .i64 e.num, .slice a e.kids.length c] 26)))
  have HT := Lib.hid ((Below.refl w.heap.size w).alloc (Nat.le_refl _) (.cells #[.int .i64 e.kind, .string e.text, .int .i64 e.num, .slice a e.kids.length c] 26))
  have ht : decide (((1 + 3 * nodesL e.kids : Nat) : Int) < 0) = false := by simp; omega
  clear hk
  go_enter Try.func27, Try.ntmps27
  go_wp2_with fail
  refine (heldKids d a c e.kids 1 _ HK.out (by omega) (by omega)).mono ?_
  rintro x w2 ⟨rfl, hb2⟩
  obtain ⟨z, hz⟩ : ∃ z : Int, z = ((1 + 3 * nodesL e.kids : Nat) : Int) := ⟨_, rfl⟩
  rw [← hz] at ht ⊢
  have HZ := Lib.hid hz
  clear hz
  go_wp2_with fail
  go_ret
  exact ⟨by rw [← HZ.out]; rfl, HT.out.trans (hb2.mono (by simp))⟩

mutual
theorem renE_nodes (f t : ByteArray) : (e : Ex) → (renE f t e).nodes = e.nodes
  | .mk k s n kids => by rw [renE, Ex.nodes, Ex.nodes, renL_nodes f t kids]
theorem renL_nodes (f t : ByteArray) : (l : List Ex) → nodesL (renL f t l) = nodesL l
  | [] => rfl
  | e :: r => by rw [renL, nodesL, nodesL, renE_nodes f t e, renL_nodes f t r]
end

end Go.Proofs.Ytdggcgipchijjaa
