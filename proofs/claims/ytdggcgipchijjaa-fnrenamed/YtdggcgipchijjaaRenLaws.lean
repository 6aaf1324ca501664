/- Plain facts on renaming. -/
import Derived.Test.YtdggcgipchijjaaRenP
import Derived.Test.YtdggcgipchijjaaDrawZ
import Derived.Test.YtdggcgipchijjaaColsP
namespace Go.Proofs.Ytdggcgipchijjaa
open Go.RowKit

theorem rtx_same (f : ByteArray) (k : Int) (s : ByteArray) : rtx f f k s = s := by
  unfold rtx
  split
  · rename_i h; exact (ba_eq h.2).symm
  · rfl

mutual
theorem ren_same (f : ByteArray) : (e : Ex) → renE f f e = e
  | .mk k s n kids => by rw [renE, rtx_same, renL_same f kids]
theorem renL_same (f : ByteArray) : (l : List Ex) → renL f f l = l
  | [] => rfl
  | e :: r => by rw [renL, ren_same f e, renL_same f r]
end

theorem rtx_back (f : ByteArray) (k : Int) (s : ByteArray) (hs : s ≠ freshT) : rtx freshT f k (rtx f freshT k s) = s := by
  unfold rtx
  by_cases h : (k == 0) = true ∧ (s.toList == f.toList) = true
  · rw [if_pos h, if_pos ⟨h.1, by simp⟩]
    exact (ba_eq h.2).symm
  · rw [if_neg h, if_neg (fun h2 => hs (ba_eq h2.2))]

mutual
theorem ren_back (f : ByteArray) : (e : Ex) → e.wz < 1000000 → renE freshT f (renE f freshT e) = e
  | .mk k s n kids => fun h => by
    rw [Ex.wz] at h
    rw [renE, renE, rtx_back f k s (tz_fresh (by omega)), renL_back f kids (by omega)]
theorem renL_back (f : ByteArray) : (l : List Ex) → wzL l < 1000000 → renL freshT f (renL f freshT l) = l
  | [] => fun _ => rfl
  | e :: r => fun h => by
    rw [wzL] at h
    rw [renL, renL, ren_back f e (by omega), renL_back f r (by omega)]
end

mutual
theorem ren_gone (f : ByteArray) (hf : f ≠ freshT) : (e : Ex) → f ∉ (renE f freshT e).cols
  | .mk k s n kids => by
    rw [renE, Ex.cols, List.mem_append]
    rintro (h | h)
    · by_cases hk : k = 0
      · have h1 : f = rtx f freshT k s := by
          have h2 : own1 (.mk k (rtx f freshT k s) n (renL f freshT kids)) = [rtx f freshT k s] := if_pos hk
          rw [h2] at h
          exact List.mem_singleton.1 h
        unfold rtx at h1
        by_cases hc : (k == 0) = true ∧ (s.toList == f.toList) = true
        · rw [if_pos hc] at h1
          exact hf h1
        · rw [if_neg hc] at h1
          exact hc ⟨by simp [hk], by rw [← h1]; simp⟩
      · have h2 : own1 (.mk k (rtx f freshT k s) n (renL f freshT kids)) = [] := if_neg hk
        rw [h2] at h
        simp at h
    · exact renL_gone f hf kids h
theorem renL_gone (f : ByteArray) (hf : f ≠ freshT) : (l : List Ex) → f ∉ colsL (renL f freshT l)
  | [] => by simp [renL, colsL]
  | e :: r => by
    rw [renL, colsL, List.mem_append]
    rintro (h | h)
    · exact ren_gone f hf e h
    · exact renL_gone f hf r h
end

mutual
theorem renE_nodesR (f t : ByteArray) : (e : Ex) → (renE f t e).nodes = e.nodes
  | .mk k s n kids => by rw [renE, Ex.nodes, Ex.nodes, renL_nodesR f t kids]
theorem renL_nodesR (f t : ByteArray) : (l : List Ex) → nodesL (renL f t l) = nodesL l
  | [] => rfl
  | e :: r => by rw [renL, nodesL, nodesL, renE_nodesR f t e, renL_nodesR f t r]
end

mutual
theorem ren_wt (f t : ByteArray) (N : Nat) (ht : t.size ≤ N) : (e : Ex) → (renE f t e).wt ≤ e.wt + N * e.nodes
  | .mk k s n kids => by
    rw [renE, Ex.wt, Ex.wt, Ex.nodes, renL_length]
    have h1 := renL_wt f t N ht kids
    have h2 : (rtx f t k s).size ≤ s.size + N := by unfold rtx; split <;> omega
    have h3 : N * (1 + nodesL kids) = N + N * nodesL kids := by rw [Nat.mul_add, Nat.mul_one]
    omega
theorem renL_wt (f t : ByteArray) (N : Nat) (ht : t.size ≤ N) : (l : List Ex) → wtL (renL f t l) ≤ wtL l + N * nodesL l
  | [] => by simp [renL, wtL]
  | e :: r => by
    rw [renL, wtL, wtL, nodesL]
    have h1 := ren_wt f t N ht e
    have h2 := renL_wt f t N ht r
    have h3 : N * (e.nodes + nodesL r) = N * e.nodes + N * nodesL r := Nat.mul_add ..
    omega
end

end Go.Proofs.Ytdggcgipchijjaa
