/- For every bytes FnJoin answers true: texts that are put together have as many bytes as they, and as what stands between; the bytes read behind the call as before it. No condition. -/
import Derived.Test.YtboanhfmmhjepaaPut
import Derived.Test.YtboanhfmmhjepaaJoin
import Derived.Test.YtboanhfmmhjepaaDrawText
import Derived.Test.YtboanhfmmhjepaaOpenBytes
import Derived.Test.YtboanhfmmhjepaaLawBase
namespace Go.Proofs.Ytboanhfmmhjepaa
open Go.ChangeShapes Go.WideShapes Go.ChangeAt Go.RowKit

theorem lets_short : ∀ {xs : List ByteArray}, Short xs → lets xs ≤ 2 * xs.length
  | [], _ => by simp [lets]
  | x :: r, h => by
    have h1 := h x (by simp)
    have h2 := lets_short (xs := r) (fun s hs => h s (by simp [hs]))
    unfold lets at h2 ⊢
    simp only [List.map_cons, List.sum_cons, List.length_cons]
    omega

theorem joinL_first_len (xs : List ByteArray) (b : ByteArray) (k : Nat) (h0 : k = 0) (h : k < xs.length) : (joinL (xs.take (k + 1)) b).length = (joinL (xs.take k) b).length + xs[k].size := by
  rw [joinL_first xs b k h0 h, List.length_append]; simp

theorem joinL_next_len (xs : List ByteArray) (b : ByteArray) (k : Nat) (h0 : 0 < k) (h : k < xs.length) : (joinL (xs.take (k + 1)) b).length = (joinL (xs.take k) b).length + xs[k].size + b.size := by
  rw [joinL_next xs b k h0 h, List.length_append, List.length_append]; simp; omega

theorem joinT_size (xs : List ByteArray) (b : ByteArray) : (joinT xs b).size = (joinL xs b).length := by
  unfold joinT
  rw [ByteArray.size]
  simp

theorem joinT_head (xs : List ByteArray) (b : ByteArray) (h : 0 < xs.length) : joinT xs b = xs[0] ++ joinT (⟨#[]⟩ :: xs.drop 1) b := by
  cases xs with
  | nil => simp at h
  | cons x r =>
    apply ByteArray.ext
    apply Array.toList_inj.1
    simp [joinT, joinL, Lib.join_cons]

theorem lets_drop (xs : List ByteArray) : lets (⟨#[]⟩ :: xs.drop 1) ≤ lets xs := by
  cases xs with
  | nil => simp [lets]; rfl
  | cons x r =>
    have h0 : (ByteArray.mk #[]).size = 0 := rfl
    simp [lets, h0]

/-- append of texts to a new row of one empty text, at a step of a region that draws its order. -/
theorem stepAppendOne {w : World} {ops : Array Oper} {o : Oper} {A : Act} {K : Act → World → Prop} {Q : Exit → Act → World → Prop} {E : Prop} (hw : Region.wanted o (yielded ops A.tmps) = true) (s x : Operand)
    (ho : o.op = .call { callee := .builtin .append, args := #[s, x], argTypes := #[27, 27] })
    (a1 : Option Addr) (n c1 : Nat) (ys : List ByteArray)
    (hs : A.eval s = .slice (some ⟨w.heap.size, 0, none⟩) 1 1) (hx : A.eval x = .slice a1 n c1) (hn : n = ys.length) (hy : Strs w a1 c1 ys) (hl : ys.length ≤ 8388600)
    (h : ∀ a' c' w', Strs w' a' c' (⟨#[]⟩ :: ys) → Below w.heap.size w w' → K (A.put o.dst (.slice a' (n + 1) c')) w') :
    if Region.wanted o (yielded ops A.tmps) = true then Oper.wp Try.prog o A (w.alloc (.cells #[.string ⟨#[]⟩] 9)) K Q else E := by
  rw [if_pos hw]
  subst hn
  obtain ⟨i0, hi0, hz0, hz1, hz2⟩ := info_parts Try.infoString
  have hb0 : Below w.heap.size w (w.alloc (.cells #[.string ⟨#[]⟩] 9)) := (Below.refl _ _).alloc (Nat.le_refl _) _
  have hown : Own (w.alloc (.cells #[.string ⟨#[]⟩] 9)) w.heap.size (some ⟨w.heap.size, 0, none⟩) 1 [⟨#[]⟩] := by
    have := World.ownsRow_lit (base := w.heap.size) (e := 9) (size := 1) w #[.string ⟨#[]⟩] 1 (Nat.le_refl _) (by unfold maxLen; omega) rfl
    exact this
  have hsz : ∀ t ∈ (⟨#[]⟩ :: ys : List ByteArray), t.size ≤ maxLen := by
    intro t ht
    rcases List.mem_cons.1 ht with rfl | ht
    · exact Nat.zero_le _
    · exact hy.2.2.1 t ht
  have hy' := hy.below hb0
  have hbs : w.heap.size ≤ (w.alloc (.cells #[.string ⟨#[]⟩] 9)).heap.size := by simp
  generalize w.alloc (.cells #[.string ⟨#[]⟩] 9) = W at *
  cases a1 with
  | none =>
    have hc1 : c1 = 0 := hy.2.2.2.1 rfl
    have hl : ys = [] := by
      cases ys with
      | nil => rfl
      | cons y r => obtain ⟨_, _, h0, _⟩ := hy.2.2.2.2 (by simp); cases h0
    subst hc1 hl
    have hrun := run_append_owned_none (P := Try.prog) (w := W) w.heap.size 27 o.type 9 i0 1 Try.underlying27 hi0 (.slice (some ⟨w.heap.size, 0, none⟩) 1 1) 1 _ hown
    have hK := h _ _ _ (hown.strs hsz) hb0
    unfold Oper.wp
    simp [execOp, ho, resolve, invoke, builtin, hs, hx, hrun, Result.andThen]
    exact hK
  | some ad =>
    obtain ⟨v', w', hr, h2, h3, _, _⟩ := run_append_own_at (P := Try.prog) W w.heap.size 27 o.type 9 i0 (.string ByteArray.empty) 1 16 Try.underlying27 hi0 hz0 hz1 hz2 rfl (by decide) (.slice (some ⟨w.heap.size, 0, none⟩) 1 1) 1 _ hown
      ad ys.length c1 (ys.map Value.string) (by simp) (by
        intro j u hu
        have hj : j < ys.length := by
          rcases Nat.lt_or_ge j ys.length with h | h
          · exact h
          · rw [List.getElem?_eq_none (by simpa using h)] at hu; cases hu
        obtain ⟨b, off, hb, _, hc⟩ := hy'.spot hj
        cases hb
        rw [List.getElem?_map, List.getElem?_eq_getElem hj] at hu
        cases hu
        rw [← hc]
        congr 1
        unfold Addr.add
        by_cases h0 : j = 0 <;> simp [h0]) (strings_one ys) (by unfold maxLen; omega) (by omega) hbs
    have hb' : Below w.heap.size w w' := hb0.grown h3 hbs (fun q hq => (hown.lt hq).1)
    have hf : ∃ a' c', v' = .slice a' (ys.length + 1) c' := by
      rcases h2.2 with ⟨rfl, h0⟩ | ⟨g, cap, cur, rfl, _⟩
      · omega
      · exact ⟨_, _, by rw [Nat.add_comm]⟩
    obtain ⟨a', c', rfl⟩ := hf
    have hown' : Own w' w.heap.size a' c' (⟨#[]⟩ :: ys) := by
      unfold Own
      have he : 1 + ys.length = ys.length + 1 := Nat.add_comm _ _
      rw [he] at h2
      simpa using h2
    have hK := h a' c' w' (hown'.strs hsz) hb'
    unfold Oper.wp execOp
    simp only [ho, resolve, invoke, builtin, Sem.run_bind, Sem.run_pure, Result.andThen_ok, List.map_toArray, List.map_cons, List.map_nil, hs, hx, hr]
    exact hK

theorem implJoinN (a : Option Addr) (c n : Nat) (xs : List ByteArray) (s : ByteArray) (w : World) (hx : Strs w a c xs) (he : n = xs.length) (hJ : lets xs + xs.length * s.size ≤ 70368744177664) (hn : xs.length ≤ 140737488355328) (J : ByteArray) (hJe : joinT xs s = J) :
    Calls Try.prog 30 #[.slice a n c, .string s] w fun e w' => e = .returned (.string J) ∧ Below w.heap.size w w' := by
  subst he hJe
  exact implJoin a c xs s w hx hJ hn

set_option maxHeartbeats 2000000 in
theorem walkFnJoin (a : Option Addr) (c : Nat) (l : List UInt8) (w : World) (hb : Bytes w a c l) :
    Calls Try.prog 6 #[.slice a l.length c] w fun e w' => e = .returned (.bool true) ∧ Below w.heap.size w w' := by
  by_cases hbig : 1048576 < l.length
  · go_enter Try.func6, Try.ntmps6
    go_wp2_with (go_at_call 12; refine (lawsBigYes _ _ _ _ hbig).mono ?_; rintro e w' ⟨rfl, rfl⟩)
    go_ret
    exact ⟨rfl, Below.refl _ _⟩
  · go_enter Try.func6, Try.ntmps6
    go_wp2_with (go_at_call 12; refine (lawsBigNo _ _ _ _ (by omega)).mono ?_; rintro e w' ⟨rfl, rfl⟩)
    refine (specDrawJoin a c l _ hb (by omega)).mono ?_
    rintro e w1 ⟨a1, c1, xs, s, rfl, own1, hsh, hlen, hs, B1⟩
    have hls := lets_short hsh
    have hmul : xs.length * s.size ≤ 4 * 2 := Nat.mul_le_mul hlen hs
    have st1 := own1.strs hsh.sizes
    clear own1
    go_wp2_with fail
    refine (implJoin a1 c1 xs s _ st1 (by omega) (by omega)).mono ?_
    rintro e w2 ⟨rfl, b2⟩
    have st2 := st1.below b2
    have B2 : Below w.heap.size w w2 := B1.trans (b2.mono B1.size)
    clear st1
    go_wp2_with fail
    go_loopw [6, 7] (fun n i wr => ∃ k m : Nat, k ≤ xs.length ∧ i = .int .i64 k ∧ n = .int .i64 ((joinL (xs.take k) s).length : Nat) ∧ wr = w2.drewN m) (fun _ i _ => xs.length - (intOf i).toNat)
    case atStart => exact ⟨0, 0, Nat.zero_le _, rfl, by simp [joinL, Lib.join_nil], rfl⟩
    case round =>
      obtain ⟨k, m, hk, rfl, rfl, rfl⟩ := hrel
      have hjl := joinL_len xs s k hk
      by_cases hlt : k < xs.length
      · obtain ⟨b, off, rfl, hbb, hc⟩ := st2.spot hlt
        have hx2 : xs[k].size ≤ 2 := hsh _ (List.getElem_mem hlt)
        have hlk := lets_le xs k
        have hks : k * s.size ≤ 4 * 2 := Nat.mul_le_mul (by omega) hs
        have HJ1 : Hid (0 < k → (joinL (xs.take (k + 1)) s).length = (joinL (xs.take k) s).length + xs[k].size + s.size) := fun hp => joinL_next_len xs s k hp hlt
        have HJ0 : Hid (¬ 0 < k → (joinL (xs.take (k + 1)) s).length = (joinL (xs.take k) s).length + xs[k].size) := fun hp => joinL_first_len xs s k (by omega) hlt
        go_wp2
        · rename_i hp
          go_roundw
          case rel => exact ⟨k + 1, m, by omega, by go_num, by rw [HJ1.out hp]; go_num, rfl⟩
          case measure => simp [intOf]; omega
        · rename_i hp
          go_roundw
          case rel => exact ⟨k + 1, m, by omega, by go_num, by rw [HJ0.out hp]; go_num, rfl⟩
          case measure => simp [intOf]; omega
      · obtain rfl : k = xs.length := by omega
        rw [List.take_length] at *
        have HB : Below w.heap.size w (w2.drewN m) := below_drewN B2 m
        have st3 : Strs (w2.drewN m) a1 c1 xs := st2
        rw [← joinT_size xs s]
        generalize w2.drewN m = w3 at HB st3 ⊢
        clear B2 st2 b2 B1 hjl hlt hk hb hbig
        rcases Nat.eq_zero_or_pos xs.length with h0 | h0
        · obtain rfl : xs = [] := List.eq_nil_of_length_eq_zero h0
          have HJ1 : Hid (lets [] + ([] : List ByteArray).length * s.size ≤ 70368744177664) := by unfold Hid; simp [lets]
          clear hsh hlen hls hmul h0
          go_wp2_with fail
          refine wp_region_noPanic ?_
          refine wp_region_held_drew (S := fun w' => Below w.heap.size w w') (by kernel_rfl) HB.drew (fun hHeld => ?_)
          refine wpAnyH_take (i := 0) (v := ?_) rfl (by kernel_rfl) (by kernel_rfl) (by kernel_rfl) (fun _ _ _ h => h) (Or.inl ⟨by rfl, ?_⟩) hHeld ?_
          rotate_left
          focus (intro wq hSw; go_simp; try with_reducible rfl)
          (try simp only [Act.put, List.getElem_toArray, List.getElem_cons_zero, List.setIfInBounds_toArray, List.set_cons_zero, List.set_cons_succ])
          refine wpAnyH_take (i := 1) (v := ?_) rfl (by kernel_rfl) (by kernel_rfl) (by kernel_rfl) (fun _ _ _ h => h) (Or.inl ⟨by rfl, ?_⟩) hHeld ?_
          rotate_left
          focus (intro wq hSw; go_simp; try with_reducible rfl)
          (try simp only [Act.put, List.getElem_toArray, List.getElem_cons_succ, List.getElem_cons_zero, List.setIfInBounds_toArray, List.set_cons_zero, List.set_cons_succ])
          refine wpAnyH_take (i := 2) (v := ?_) rfl (by kernel_rfl) (by kernel_rfl) (by kernel_rfl) (fun _ _ _ h => h) (Or.inl ⟨by rfl, ?_⟩) hHeld ?_
          rotate_left
          focus (intro wq hSw; go_simp; try with_reducible rfl)
          (try simp only [Act.put, List.getElem_toArray, List.getElem_cons_succ, List.getElem_cons_zero, List.setIfInBounds_toArray, List.set_cons_zero, List.set_cons_succ])
          refine wpAnyH_ready (rs := [3]) (by kernel_rfl) (by simp) ?_
          refine AllReadyH.cons rfl (fun K hK => ?_) AllReadyH.nil
          go_simp
          refine (specJoin a1 c1 [] s _ (st3.below (below_drewN (Below.refl _ _) 1)) HJ1.out).mono ?_; rintro e w4 ⟨rfl, b4⟩
          have HB4 : Below w.heap.size w w4 := HB.drew.trans (b4.mono HB.size)
          refine hK.out _ _ HB4 (fun hHeld => ?_)
          clear hK K
          (try simp only [Act.put, List.getElem_toArray, List.getElem_cons_succ, List.getElem_cons_zero, List.setIfInBounds_toArray, List.set_cons_zero, List.set_cons_succ])
          refine wpAnyH_take (i := 4) (v := ?_) rfl (by kernel_rfl) (by kernel_rfl) (by kernel_rfl) (fun _ _ _ h => h) (Or.inl ⟨by rfl, ?_⟩) hHeld ?_
          rotate_left
          focus (intro wq hSw; go_simp; try with_reducible rfl)
          (try simp only [Act.put, List.getElem_toArray, List.getElem_cons_succ, List.getElem_cons_zero, List.setIfInBounds_toArray, List.set_cons_zero, List.set_cons_succ])
          refine wpAnyH_take (i := 5) (v := ?_) rfl (by kernel_rfl) (by kernel_rfl) (by kernel_rfl) (fun _ _ _ h => h) (Or.inl ⟨by rfl, ?_⟩) hHeld ?_
          rotate_left
          focus (intro wq hSw; go_simp; try with_reducible rfl)
          (try simp only [Act.put, List.getElem_toArray, List.getElem_cons_succ, List.getElem_cons_zero, List.setIfInBounds_toArray, List.set_cons_zero, List.set_cons_succ])
          refine wpAnyH_take (i := 6) (v := ?_) rfl (by kernel_rfl) (by kernel_rfl) (by kernel_rfl) (fun _ _ _ h => h) (Or.inl ⟨by rfl, ?_⟩) hHeld ?_
          rotate_left
          focus (intro wq hSw; go_simp; try with_reducible rfl)
          (try simp only [Act.put, List.getElem_toArray, List.getElem_cons_succ, List.getElem_cons_zero, List.setIfInBounds_toArray, List.set_cons_zero, List.set_cons_succ])
          refine wpAnyH_take (i := 7) (v := ?_) rfl (by kernel_rfl) (by kernel_rfl) (by kernel_rfl) (fun _ _ _ h => h) (Or.inl ⟨by rfl, ?_⟩) hHeld ?_
          rotate_left
          focus (intro wq hSw; go_simp; try with_reducible rfl)
          (try simp only [Act.put, List.getElem_toArray, List.getElem_cons_succ, List.getElem_cons_zero, List.setIfInBounds_toArray, List.set_cons_zero, List.set_cons_succ])
          refine wpAnyH_take (i := 8) (v := ?_) rfl (by kernel_rfl) (by kernel_rfl) (by kernel_rfl) (fun _ _ _ h => h) (Or.inl ⟨by rfl, ?_⟩) hHeld ?_
          rotate_left
          focus (intro wq hSw; go_simp; try with_reducible rfl)
          (try simp only [Act.put, List.getElem_toArray, List.getElem_cons_succ, List.getElem_cons_zero, List.setIfInBounds_toArray, List.set_cons_zero, List.set_cons_succ])
          refine wpAnyH_take (i := 9) (v := ?_) rfl (by kernel_rfl) (by kernel_rfl) (by kernel_rfl) (fun _ _ _ h => h) (Or.inl ⟨by rfl, ?_⟩) hHeld ?_
          rotate_left
          focus (intro wq hSw; go_simp; try with_reducible rfl)
          (try simp only [Act.put, List.getElem_toArray, List.getElem_cons_succ, List.getElem_cons_zero, List.setIfInBounds_toArray, List.set_cons_zero, List.set_cons_succ])
          refine wpAnyH_take (i := 10) (v := ?_) rfl (by kernel_rfl) (by kernel_rfl) (by kernel_rfl) (fun _ _ _ h => h) (Or.inl ⟨by rfl, ?_⟩) hHeld ?_
          rotate_left
          focus (intro wq hSw; go_simp; try with_reducible rfl)
          (try simp only [Act.put, List.getElem_toArray, List.getElem_cons_succ, List.getElem_cons_zero, List.setIfInBounds_toArray, List.set_cons_zero, List.set_cons_succ])
          refine wpAnyH_take (i := 11) (v := ?_) rfl (by kernel_rfl) (by kernel_rfl) (by kernel_rfl) (fun _ _ _ h => h) (Or.inl ⟨by rfl, ?_⟩) hHeld ?_
          rotate_left
          focus (intro wq hSw; go_simp; try with_reducible rfl)
          (try simp only [Act.put, List.getElem_toArray, List.getElem_cons_succ, List.getElem_cons_zero, List.setIfInBounds_toArray, List.set_cons_zero, List.set_cons_succ])
          refine wpAnyH_take (i := 12) (v := ?_) rfl (by kernel_rfl) (by kernel_rfl) (by kernel_rfl) (fun _ _ _ h => h) (Or.inl ⟨by rfl, ?_⟩) hHeld ?_
          rotate_left
          focus (intro wq hSw; go_simp; try with_reducible rfl)
          (try simp only [Act.put, List.getElem_toArray, List.getElem_cons_succ, List.getElem_cons_zero, List.setIfInBounds_toArray, List.set_cons_zero, List.set_cons_succ])
          refine wpAnyH_take (i := 13) (v := ?_) rfl (by kernel_rfl) (by kernel_rfl) (by kernel_rfl) (fun _ _ _ h => h) (Or.inl ⟨by rfl, ?_⟩) hHeld ?_
          rotate_left
          focus (intro wq hSw; go_simp; try with_reducible rfl)
          (try simp only [Act.put, List.getElem_toArray, List.getElem_cons_succ, List.getElem_cons_zero, List.setIfInBounds_toArray, List.set_cons_zero, List.set_cons_succ])
          refine wpAnyH_take (i := 14) (v := ?_) rfl (by kernel_rfl) (by kernel_rfl) (by kernel_rfl) (fun _ _ _ h => h) (Or.inl ⟨by rfl, ?_⟩) hHeld ?_
          rotate_left
          focus (intro wq hSw; go_simp; try with_reducible rfl)
          (try simp only [Act.put, List.getElem_toArray, List.getElem_cons_succ, List.getElem_cons_zero, List.setIfInBounds_toArray, List.set_cons_zero, List.set_cons_succ])
          refine wpAnyH_take (i := 15) (v := ?_) rfl (by kernel_rfl) (by kernel_rfl) (by kernel_rfl) (fun _ _ _ h => h) (Or.inl ⟨by rfl, ?_⟩) hHeld ?_
          rotate_left
          focus (intro wq hSw; go_simp; try with_reducible rfl)
          (try simp only [Act.put, List.getElem_toArray, List.getElem_cons_succ, List.getElem_cons_zero, List.setIfInBounds_toArray, List.set_cons_zero, List.set_cons_succ])
          refine wpAnyH_take (i := 16) (v := undef) rfl (by kernel_rfl) (by kernel_rfl) (by kernel_rfl) (fun _ _ _ h => h) (Or.inr ⟨by rfl, rfl⟩) hHeld ?_
          (try simp only [Act.put, List.getElem_toArray, List.getElem_cons_succ, List.getElem_cons_zero, List.setIfInBounds_toArray, List.set_cons_zero, List.set_cons_succ])
          refine wpAnyH_take (i := 17) (v := undef) rfl (by kernel_rfl) (by kernel_rfl) (by kernel_rfl) (fun _ _ _ h => h) (Or.inr ⟨by rfl, rfl⟩) hHeld ?_
          (try simp only [Act.put, List.getElem_toArray, List.getElem_cons_succ, List.getElem_cons_zero, List.setIfInBounds_toArray, List.set_cons_zero, List.set_cons_succ])
          refine wpAnyH_take (i := 18) (v := undef) rfl (by kernel_rfl) (by kernel_rfl) (by kernel_rfl) (fun _ _ _ h => h) (Or.inr ⟨by rfl, rfl⟩) hHeld ?_
          (try simp only [Act.put, List.getElem_toArray, List.getElem_cons_succ, List.getElem_cons_zero, List.setIfInBounds_toArray, List.set_cons_zero, List.set_cons_succ])
          refine wpAnyH_take (i := 19) (v := undef) rfl (by kernel_rfl) (by kernel_rfl) (by kernel_rfl) (fun _ _ _ h => h) (Or.inr ⟨by rfl, rfl⟩) hHeld ?_
          (try simp only [Act.put, List.getElem_toArray, List.getElem_cons_succ, List.getElem_cons_zero, List.setIfInBounds_toArray, List.set_cons_zero, List.set_cons_succ])
          refine wpAnyH_take (i := 20) (v := undef) rfl (by kernel_rfl) (by kernel_rfl) (by kernel_rfl) (fun _ _ _ h => h) (Or.inr ⟨by rfl, rfl⟩) hHeld ?_
          (try simp only [Act.put, List.getElem_toArray, List.getElem_cons_succ, List.getElem_cons_zero, List.setIfInBounds_toArray, List.set_cons_zero, List.set_cons_succ])
          refine wpAnyH_take (i := 21) (v := undef) rfl (by kernel_rfl) (by kernel_rfl) (by kernel_rfl) (fun _ _ _ h => h) (Or.inr ⟨by rfl, rfl⟩) hHeld ?_
          (try simp only [Act.put, List.getElem_toArray, List.getElem_cons_succ, List.getElem_cons_zero, List.setIfInBounds_toArray, List.set_cons_zero, List.set_cons_succ])
          refine wpAnyH_take (i := 22) (v := undef) rfl (by kernel_rfl) (by kernel_rfl) (by kernel_rfl) (fun _ _ _ h => h) (Or.inr ⟨by rfl, rfl⟩) hHeld ?_
          (try simp only [Act.put, List.getElem_toArray, List.getElem_cons_succ, List.getElem_cons_zero, List.setIfInBounds_toArray, List.set_cons_zero, List.set_cons_succ])
          refine wpAnyH_take (i := 23) (v := undef) rfl (by kernel_rfl) (by kernel_rfl) (by kernel_rfl) (fun _ _ _ h => h) (Or.inr ⟨by rfl, rfl⟩) hHeld ?_
          (try simp only [Act.put, List.getElem_toArray, List.getElem_cons_succ, List.getElem_cons_zero, List.setIfInBounds_toArray, List.set_cons_zero, List.set_cons_succ])
          refine wpAnyH_take (i := 24) (v := undef) rfl (by kernel_rfl) (by kernel_rfl) (by kernel_rfl) (fun _ _ _ h => h) (Or.inr ⟨by rfl, rfl⟩) hHeld ?_
          (try simp only [Act.put, List.getElem_toArray, List.getElem_cons_succ, List.getElem_cons_zero, List.setIfInBounds_toArray, List.set_cons_zero, List.set_cons_succ])
          refine wpAnyH_take (i := 25) (v := undef) rfl (by kernel_rfl) (by kernel_rfl) (by kernel_rfl) (fun _ _ _ h => h) (Or.inr ⟨by rfl, rfl⟩) hHeld ?_
          (try simp only [Act.put, List.getElem_toArray, List.getElem_cons_succ, List.getElem_cons_zero, List.setIfInBounds_toArray, List.set_cons_zero, List.set_cons_succ])
          refine wpAnyH_take (i := 26) (v := undef) rfl (by kernel_rfl) (by kernel_rfl) (by kernel_rfl) (fun _ _ _ h => h) (Or.inr ⟨by rfl, rfl⟩) hHeld ?_
          (try simp only [Act.put, List.getElem_toArray, List.getElem_cons_succ, List.getElem_cons_zero, List.setIfInBounds_toArray, List.set_cons_zero, List.set_cons_succ])
          refine wpAnyH_take (i := 27) (v := undef) rfl (by kernel_rfl) (by kernel_rfl) (by kernel_rfl) (fun _ _ _ h => h) (Or.inr ⟨by rfl, rfl⟩) hHeld ?_
          (try simp only [Act.put, List.getElem_toArray, List.getElem_cons_succ, List.getElem_cons_zero, List.setIfInBounds_toArray, List.set_cons_zero, List.set_cons_succ])
          refine wpAnyH_take (i := 28) (v := ?_) rfl (by kernel_rfl) (by kernel_rfl) (by kernel_rfl) (fun _ _ _ h => h) (Or.inl ⟨by rfl, ?_⟩) hHeld ?_
          rotate_left
          focus (intro wq hSw; go_simp; try with_reducible rfl)
          (try simp only [Act.put, List.getElem_toArray, List.getElem_cons_succ, List.getElem_cons_zero, List.setIfInBounds_toArray, List.set_cons_zero, List.set_cons_succ])
          refine wpAnyH_take (i := 29) (v := ?_) rfl (by kernel_rfl) (by kernel_rfl) (by kernel_rfl) (fun _ _ _ h => h) (Or.inl ⟨by rfl, ?_⟩) hHeld ?_
          rotate_left
          focus (intro wq hSw; go_simp; try with_reducible rfl)
          (try simp only [Act.put, List.getElem_toArray, List.getElem_cons_succ, List.getElem_cons_zero, List.setIfInBounds_toArray, List.set_cons_zero, List.set_cons_succ])
          refine wpAnyH_take (i := 30) (v := ?_) rfl (by kernel_rfl) (by kernel_rfl) (by kernel_rfl) (fun _ _ _ h => h) (Or.inl ⟨by rfl, ?_⟩) hHeld ?_
          rotate_left
          focus (intro wq hSw; go_simp; try with_reducible rfl)
          (try simp only [Act.put, List.getElem_toArray, List.getElem_cons_succ, List.getElem_cons_zero, List.setIfInBounds_toArray, List.set_cons_zero, List.set_cons_succ])
          refine wpAnyH_done (by kernel_rfl) ?_ _
          refine NoPanic.normal ?_
          go_wp2_with fail
          go_ret
          exact ⟨rfl, HB4⟩
        · have hJ1 : lets xs + xs.length * s.size ≤ 70368744177664 := by omega
          have hld := lets_drop xs
          have hdl : (⟨#[]⟩ :: xs.drop 1 : List ByteArray).length = xs.length := by simp; omega
          have hJ2 : lets (⟨#[]⟩ :: xs.drop 1) + (⟨#[]⟩ :: xs.drop 1 : List ByteArray).length * s.size ≤ 70368744177664 := by rw [hdl]; omega
          have hJ3 : (⟨#[]⟩ :: xs.drop 1 : List ByteArray).length ≤ 140737488355328 := by rw [hdl]; omega
          have hd1 : xs.length - 1 = (xs.drop 1).length := by simp
          have hd2 : (xs.drop 1).length ≤ 8388600 := by simp; omega
          have hd3 : xs.length - 1 + 1 = (⟨#[]⟩ :: xs.drop 1 : List ByteArray).length := by rw [hdl]; omega
          obtain ⟨J2, hJ2e⟩ : ∃ J2, joinT (⟨#[]⟩ :: xs.drop 1) s = J2 := ⟨_, rfl⟩
          have hj2 : J2.size ≤ 16 := by
            rw [← hJ2e, joinT_size]
            have h1 := joinL_len (⟨#[]⟩ :: xs.drop 1) s _ (Nat.le_refl _)
            rw [List.take_length, hdl] at h1
            omega
          have hx0 := hsh _ (List.getElem_mem h0)
          have hadd : ¬ (9223372036854775807 < xs[0].size + J2.size) := by omega
          have HX := Lib.hid ((joinT_head xs s h0).trans (congrArg (xs[0] ++ ·) hJ2e))
          have HJ2e := Lib.hid hJ2e
          clear hJ2e
          obtain ⟨b, off, rfl, hbb, hc⟩ := st3.spot h0
          obtain ⟨A2, hr2, st3b⟩ := sliceBack st3 1 1 rfl (by omega)
          have Hd1 := Lib.hid hd1
          have Hd3 := Lib.hid hd3
          have HJ1 := Lib.hid hJ1
          have HJ2 := Lib.hid hJ2
          have HJ3 := Lib.hid hJ3
          have Hd2 := Lib.hid hd2
          simp only [Nat.add_zero] at hc
          have hz : ((xs.length : Int) == 0) = false := by rw [beq_eq_false_iff_ne]; omega
          clear hd1 hd3 hJ1 hJ2 hJ3 hdl hld hd2
          go_wp2_with fail
          go_region_held3 (fun w' => w'.cell? ⟨b, off, none⟩ = some (.string xs[0])) (first | exact hc | exact hc4 | exact hc4' | exact hc5 | exact hc6)
            (first
              | (go_at_call 31; refine (specJoin _ _ xs s _ (st3.below (below_drewN (Below.refl _ _) 1)) HJ1.out).mono ?_; rintro e w4 ⟨rfl, b4⟩; have hc4 := (b4.cell (p := ⟨b, off, none⟩) hbb).trans hc; have hc4' := ((((Below.refl w4.heap.size w4).alloc (Nat.le_refl _) (.cells #[.string ⟨#[]⟩] 9)).cell (p := ⟨b, off, none⟩) (Nat.lt_of_lt_of_le hbb b4.size))).trans hc4; have st4b := (st3b.below (below_drewN (Below.refl _ _) 1)).below b4)
              | (refine stepAppendOne (by rfl) _ _ (by rfl) A2 _ _ (xs.drop 1) (by rfl) (by rfl) Hd1.out st4b Hd2.out ?_; intro a5 c5 w5 st5 b5; have hc5 := (b5.cell (p := ⟨b, off, none⟩) (Nat.lt_of_lt_of_le hbb b4.size)).trans hc4)
              | (go_at_call 30; refine (implJoinN _ _ _ _ s _ st5 Hd3.out HJ2.out HJ3.out J2 HJ2e.out).mono ?_; rintro e w6 ⟨rfl, b6⟩; have hc6 := (b6.cell (p := ⟨b, off, none⟩) (Nat.lt_of_lt_of_le (Nat.lt_of_lt_of_le hbb b4.size) b5.size)).trans hc5))
          go_wp2_with fail
          go_ret
          refine ⟨?_, (HB.drew.trans (b4.mono HB.size)).trans ((b5.mono ?_).trans (b6.mono ?_))⟩
          · rw [← HX.out]; simp
          · exact Nat.le_trans HB.size b4.size
          · exact Nat.le_trans (Nat.le_trans HB.size b4.size) b5.size

set_option maxRecDepth 100000 in
theorem liftedFnJoin (os : Os) (started : os.Started) (H : Type) (enc : TypeId × Value → H) :
    ReturnsInHanded {} Try.checked os 6 .any (Rows.fnJoinSpec.pre6 enc Try.prog Try.f6 Rows.fnJoinRow.domain false) (Rows.fnJoinSpec.post enc Try.prog Try.f6 false true false false) := by
  refine returnsInHanded_of_change (C := Try.checked) ownKnobs started (by kernel_rfl) Try.func6
    (ChangeSpec.witness6 (enc := enc) (C := Try.checked) false ⟨#[], #[.slice none 0 0], []⟩ 8 (by kernel_rfl) (by kernel_rfl) (by kernel_rfl) (by kernel_rfl)) ?_
  intro W base args ds gs before hval0 hW hcnd _
  have hval : ∀ (j : Nat) t v, Try.f6.params[j]? = some t → args[j]? = some v → Value.okWide Try.prog W .any base t v := hval0
  have hW' := hW
  obtain ⟨p, q, hA0, hV, rfl, hfz, hnd⟩ := hW
  have hA : DataW.TrodAll enc Try.prog W 0 (fun _ => true) true Try.f6.params.toList args.toList ds p := hA0
  rw [Try.params6] at hA hval
  obtain ⟨v0, vs0, d0, ds0, p0, q0, hargs, rfl, rfl, h0, r0⟩ := trodAll_cons hA
  obtain ⟨rfl, rfl, rfl⟩ := trodAll_nil r0
  obtain rfl : args = #[v0] := by cases args; simp_all
  obtain ⟨rfl, rfl⟩ := trodVars_none hV
  obtain ⟨a0, l0, c0, rfl⟩ := okWide_slice Try.underlying22 (hval 0 22 v0 rfl rfl)
  have k0 := h0
  have lt0 : ∀ x ∈ p0, x.block < W.heap.size := by obtain ⟨m, hm⟩ := k0; exact DataW.trod_lt m _ _ _ hm
  obtain ⟨x0, rfl, w0⟩ : ∃ xs : List UInt8, l0 = xs.length ∧ Bytes W a0 c0 xs := Bytes_of_trod h0
  clear hA0 hval0
  refine (walkFnJoin a0 c0 x0 W w0).mono fun e W' ⟨he, bel⟩ => ?_
  subst he
  exact ⟨_, rfl, _, _, _, [], _, [], hW', trodAll_mk1 (shut_bool Try.underlying4 _), (trodAll_cons_mk (Below.trod laidOutB0 (by kernel_rfl) (of_decide_eq_true (by kernel_rfl)) k0 bel lt0) trodAll_mk0), rfl, bel.frame _, fun h => by cases h⟩

theorem provedFnJoin : Rows.FnJoinSaid :=
  OpenClaim.holds_of_wide 6 Try.f6 rfl rfl rfl rfl rfl rfl rfl ⟨rfl, rfl, rfl, rfl, rfl⟩ rfl rfl rfl rfl rfl (by kernel_rfl) Try.func6 (by kernel_rfl)
    (of_decide_eq_true (by kernel_rfl)) (by unfold Func.isWrapper; first | (rw [if_pos (by decide +kernel)]; kernel_rfl) | (rw [if_neg (by decide +kernel)]; exact ⟨rfl, rfl⟩))
    (fun os started H enc _ => liftedFnJoin os started H enc)

#print axioms provedFnJoin
end Go.Proofs.Ytboanhfmmhjepaa
