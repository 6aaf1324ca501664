/- impl.Without and spec.Without: each answers a new list of the texts that differ from the one text. -/
import Derived.Test.YtboanhfmmhjepaaWithout
import Derived.Test.YtboanhfmmhjepaaAppend
namespace Go.Proofs.Ytboanhfmmhjepaa
open Go.RowKit Go.Shelf
attribute [local go_sem] Oper.semAt_some

theorem Try.infoStrings : (Try.prog.info? 27).map (fun i => (i.zero, i.size, i.bytes)) = some (some (.slice none 0 0), 1, 24) := by kernel_rfl

theorem ownsLower {w : World} {B B' : Nat} {e : TypeId} {size n : Nat} {v : Value} {xs : List Value} (h : w.ownsRow B e size v n xs) (hB : B' ≤ B) : w.ownsRow B' e size v n xs := by
  refine ⟨h.1, ?_⟩
  rcases h.2 with h2 | ⟨g, cap, cur, hv, hb, r⟩
  · exact .inl h2
  · exact .inr ⟨g, cap, cur, hv, by omega, r⟩

/-- Behind an append in a box ahead of the rows. -/
theorem boxAppended {W w1 : World} {n₁ B : Nat} {v v' : Value} {k m : Nat} {xs ys : List Value} {tmp : Obj}
    (hv : Boxed W B 27 v) (hrow : W.ownsRow n₁ 9 1 v k xs) (hn₁ : n₁ ≤ W.heap.size) (hB : B < n₁)
    (hown' : w1.ownsRow n₁ 9 1 v' m ys) (hgrow : (W.alloc tmp).grownBy w1 v.ownBlock) :
    Boxed w1 B 27 v ∧ Boxed (w1.setCell ⟨B, 0, none⟩ v') B 27 v' ∧ (w1.setCell ⟨B, 0, none⟩ v').ownsRow n₁ 9 1 v' m ys ∧ KeepsOthers W (w1.setCell ⟨B, 0, none⟩ v') ∧
      Below B W (w1.setCell ⟨B, 0, none⟩ v') ∧ ∀ j, j < n₁ → j ≠ B → (w1.setCell ⟨B, 0, none⟩ v').heap[j]? = W.heap[j]? := by
  obtain ⟨h1, h2, _, h4, h5⟩ := hv.appended (n₀ := B) (by decide) (ownsLower hrow (by omega)) (by omega) (Nat.le_refl _) (ownsLower hown' (by omega)) hgrow
  refine ⟨h1, h2, hown'.kept (grownBy_setCell' w1 B v') (.inr ?_), h4, h5, fun j hj hne => ?_⟩
  · intro e
    have := (hown'.lt B e).1
    omega
  · rw [Below.heap_setCell _ _ _ _ hne, hgrow.block j (by simp; omega) (fun e => by have := ((hrow.alloc tmp).lt j e.symm).1; omega), Below.heap_alloc _ _ _ (by omega)]

set_option maxHeartbeats 1000000 in
theorem implWithout (a : Option Addr) (c : Nat) (xs : List ByteArray) (s : ByteArray) (w : World) (hx : Strs w a c xs) (_hs : s.size ≤ maxLen) (hn : xs.length ≤ 4194304) :
    Calls Try.prog 20 #[.slice a xs.length c, .string s] w (NewStrs w (woutL xs s)) := by
  refine (callsIn_wide (n := 5)).1 ?_
  have hl := hx.len
  have hwl := woutL_len xs s
  obtain ⟨i0, hi0, hz0, hz1, hz2⟩ := info_parts Try.infoString
  refine callsIn_of_wp_marks Try.func20 rfl trivial ?_ rfl
  simp only [Try.ntmps20, List.size_toArray, List.length_cons, List.length_nil, Nat.reduceAdd, Nat.reduceSub, Array.replicate_succ, Array.replicate_zero, List.push_toArray, List.append_toArray, List.nil_append, List.cons_append]
  gi_wp2_with (refine ⟨trivial, ?_⟩; gi_at_call 45; refine (implOthers _ _ _ _ _ _).mono ?_; rintro e w' ⟨rfl, rfl⟩)
  have bO := Boxed.new w 27 (.slice none 0 0)
  have bL := Boxed.new (w.alloc (.cells #[.slice none 0 0] 27)) 27 (.slice a xs.length c)
  have bV := Boxed.new ((w.alloc (.cells #[.slice none 0 0] 27)).alloc (.cells #[.slice a xs.length c] 27)) 9 (.string s)
  simp only [World.size_alloc] at bL bV
  have hB0 : Below w.heap.size w (((w.alloc (.cells #[.slice none 0 0] 27)).alloc (.cells #[.slice a xs.length c] 27)).alloc (.cells #[.string s] 9)) := (((Below.refl _ w).alloc (Nat.le_refl _) _).alloc (by simp) _).alloc (by simp; omega) _
  have hsz0 : (((w.alloc (.cells #[.slice none 0 0] 27)).alloc (.cells #[.slice a xs.length c] 27)).alloc (.cells #[.string s] 9)).heap.size = w.heap.size + 3 := by simp
  refine wpIn_rangeFunc_ownG rfl (by omega) (gf := 51) (lb := #[.pointer (some ⟨w.heap.size + 1, 0, none⟩), .pointer (some ⟨w.heap.size + 1 + 1, 0, none⟩)]) rfl trivial (enters_of Try.func51 (by kernel_rfl) rfl)
    (othersStops 4 (w.heap.size + 1) (w.heap.size + 1 + 1) (by omega) (fun k => k < w.heap.size + 3 ∧ k ≠ w.heap.size) a c xs s _ (fun k hk => by rw [hsz0]; exact hk.1) ⟨by omega, by omega⟩ ⟨by omega, by omega⟩ (bL.alloc _).cell bV.cell
      ((fun h0 => by
        obtain ⟨b, off, ha, hb, hc⟩ := hx.2.2.2.2 h0
        exact ⟨b, off, ha, ⟨by omega, by omega⟩, fun i hi => (hB0.cell (p := ⟨b, off + i, none⟩) hb).trans (hc i hi)⟩)) hl)
    KeepP.trans (KeepP.put (fun k hk => by rw [hsz0]; exact hk.1)) (Below.refl _ _) (fun _ => rfl)
    (fun pre W => (∃ v, Boxed W w.heap.size 27 v ∧ W.ownsRow (w.heap.size + 3) 9 1 v pre.length (pre.map Value.string) ∧ True) ∧ (Below w.heap.size w W ∧ w.heap.size + 3 ≤ W.heap.size))
    (fun _ _ _ => False)
    (OwnFrom.and (Go.Own.from (holdsRow_own (w.heap.size + 3) w.heap.size 27 9 1 (fun pre : List ByteArray => pre.length) (fun pre => pre.map Value.string) (fun _ _ => True)) _) (OwnFrom.and (ownFrom_below (Nat.le_refl _) (by simp; omega)) (fun _ _ _ _ h hg _ => Nat.le_trans h hg.size)))
    (fun _ _ _ _ _ hs _ _ => hs)
    ⟨⟨_, (bO.alloc _).alloc _, World.ownsRow_nil _ _ _ _, trivial⟩, hB0, by rw [hsz0]; omega⟩
    (fun x => { tmps := #[.slice a xs.length c, .string s, undef, undef, .slice none 0 0, .pointer (some ⟨w.heap.size, 0, none⟩), .string x, .slice a xs.length c, .string s, .func (.func 51) #[] #[.pointer (some ⟨w.heap.size + 1, 0, none⟩), .pointer (some ⟨w.heap.size + 1 + 1, 0, none⟩)], .string x, undef, undef, undef, undef, undef], defers := [] }) ?assign ?body ?done ?stop
  case assign =>
    intro l x W K hK
    gi_wp2
    exact hK
  case body =>
    rintro l pre x W ⟨⟨v, hv, hrow, _⟩, hB, hsW⟩ hlt
    have hc := hv.cell
    gi_wp2_with (gi_at_builtin; refine wpListIn_append_own _ rfl _ _ 27 rfl (w.heap.size + 3) 9 i0 (.string ByteArray.empty) 1 16 Try.underlying27 hi0 hz0 hz1 hz2 rfl (by decide) _ _ _ rfl (hrow.alloc _) ⟨W.heap.size, 0, none⟩ 1 1 [.string x] rfl rfl (cell_one_new _ _ _) (by simp [Value.oneCell']) (by unfold maxLen; omega) (by omega) (by simp; omega) ?_; intro v' w1 hown' hgrow _; obtain ⟨g', cap', rfl⟩ := ownsRow_succ hown'; obtain ⟨hv1, hv2, hr2, hk2, hb2, hp2⟩ := boxAppended hv hrow hsW (by omega) hown' hgrow; have hc1 := hv1.cell; have hf1 := hv1.frozen)
    exact ⟨hk2.from _, (fun k hk => hp2 k hk.1 hk.2), ⟨⟨_, hv2, by simpa using hr2, trivial⟩, hB.trans hb2, Nat.le_trans hsW hb2.size⟩⟩
  case done =>
    rintro D ys W hD rfl ⟨⟨v, hv, hrow, _⟩, hB, _⟩ hK
    have hc := hv.cell
    have hform : ∃ a1 c1, v = .slice a1 (woutL xs s).length c1 := by
      rcases hrow.2 with ⟨rfl, h0⟩ | ⟨g, cap, cur, rfl, _⟩
      · exact ⟨none, 0, by rw [h0]⟩
      · exact ⟨_, _, rfl⟩
    obtain ⟨a1, c1, rfl⟩ := hform
    gi_wp2
    refine ⟨by simp, .inl ⟨_, _, rfl, run_takeDeferred hK, ?_⟩⟩
    exact ⟨_, results_tmp rfl _ _ _, a1, c1, rfl, ownsLower (ownsRow_putObj hrow _ hK rfl) (by omega), hB.trans (belowK_b (w := w) (Nat.le_refl _) W D _ _ (by rw [hsz0] at hD; omega) hK rfl rfl)⟩
  case stop =>
    rintro D c pre W _ _ h _
    exact h.elim

set_option maxHeartbeats 1000000 in
theorem specWithout (a : Option Addr) (c : Nat) (xs : List ByteArray) (s : ByteArray) (w : World) (hx : Strs w a c xs) (_hs : s.size ≤ maxLen) (hn : xs.length ≤ 4194304) :
    Calls Try.prog 28 #[.slice a xs.length c, .string s] w (NewStrs w (woutL xs s)) := by
  obtain ⟨i0, hi0, hz0, hz1, hz2⟩ := info_parts Try.infoString
  have hl := hx.len
  have hwl := woutL_len xs s
  go_enter Try.func28, Try.ntmps28
  go_wp2
  go_loopw [5, 6] (fun v i wr => ∃ (k : Nat) (a1 : Option Addr) (c1 : Nat), k ≤ xs.length ∧ i = .int .i64 k ∧ v = .slice a1 (woutL (xs.take k) s).length c1 ∧ Own wr w.heap.size a1 c1 (woutL (xs.take k) s) ∧ Below w.heap.size w wr) (fun _ i _ => xs.length - (intOf i).toNat)
  case atStart => exact ⟨0, _, _, Nat.zero_le _, rfl, rfl, ownEmpty w, (Below.refl _ _).alloc (Nat.le_refl _) _⟩
  case round =>
    obtain ⟨k, a1, c1, hk, rfl, rfl, hown, hb⟩ := hrel
    have hsz := hb.size
    by_cases hlt : k < xs.length
    · obtain ⟨b, off, rfl, hbl, hc⟩ := (hx.below hb).spot hlt
      have hsk := hx.2.2.1 xs[k] (List.getElem_mem hlt)
      have hle := woutL_le xs s k
      cases he : (!(xs[k].toList == s.toList)) with
      | true =>
        have HS := Lib.hid (woutL_hit xs s k hlt he)
        go_wp2_with (at_builtin; refine wpAppendStrs rfl (.tmp 20) (.tmp 25) rfl i0 hi0 hz0 hz1 hz2 w.heap.size a1 c1 _ (some ⟨_, 0, none⟩) 1 [xs[k]] rfl (hown.alloc _) rfl (strsOne _ _ hsk) (by simp only [List.length_cons, List.length_nil]; omega) (by simp; omega) ?_; intro a2 c2 w2 hown2 hg2)
        have hb2 := appended hb (Nat.le_refl _) hown hg2
        go_roundw
        case rel => exact ⟨k + 1, a2, c2, by omega, by go_num, by rw [HS.out, List.length_append]; rfl, by rw [HS.out]; exact hown2, hb2⟩
        case measure => simp [intOf]; omega
      | false =>
        have HS := Lib.hid (woutL_miss xs s k hlt he)
        go_wp2
        go_roundw
        case rel => exact ⟨k + 1, a1, c1, by omega, by go_num, by rw [HS.out], by rw [HS.out]; exact hown, hb⟩
        case measure => simp [intOf]; omega
    · obtain rfl : k = xs.length := by omega
      rw [List.take_length] at hown ⊢
      go_wp2
      go_ret
      exact ⟨a1, c1, rfl, hown, hb⟩

end Go.Proofs.Ytboanhfmmhjepaa
