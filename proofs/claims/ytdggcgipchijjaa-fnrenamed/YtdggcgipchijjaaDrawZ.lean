/- The draws of expressions once more: no drawn text is the fresh name of the law of renaming. -/
import Derived.Test.YtdggcgipchijjaaDrawEx
namespace Go.Proofs.Ytdggcgipchijjaa
open Go.RowKit

/-- The fresh name. -/
def freshT : ByteArray := ⟨#[102, 114, 101, 115, 104, 32, 111, 110, 101]⟩

/-- The size of a text; that of the fresh name counts for too much. -/
def tz (s : ByteArray) : Nat := s.size + if s.data.toList = [102, 114, 101, 115, 104, 32, 111, 110, 101] then 1000000 else 0

theorem tz_le (s : ByteArray) : s.size ≤ tz s := by unfold tz; omega
theorem tz_empty : tz ⟨#[]⟩ ≤ 60 := by unfold tz; decide
theorem tz_fresh {s : ByteArray} (h : tz s < 1000000) : s ≠ freshT := by
  rintro rfl
  unfold tz freshT at h
  rw [if_pos rfl] at h
  omega

mutual
def Ex.wz : Ex → Nat
  | .mk _ t _ kids => tz t + (kids.length + wzL kids)
def wzL : List Ex → Nat
  | [] => 0
  | e :: r => e.wz + wzL r
end

theorem Ex.wz_eq (e : Ex) : e.wz = tz e.text + (e.kids.length + wzL e.kids) := by
  cases e; rw [Ex.wz]; rfl

mutual
theorem wt_wz : (e : Ex) → e.wt ≤ e.wz
  | .mk _ t _ kids => by rw [Ex.wt, Ex.wz]; have h1 := wtL_wzL kids; have h2 := tz_le t; omega
theorem wtL_wzL : (l : List Ex) → wtL l ≤ wzL l
  | [] => by simp [wtL, wzL]
  | e :: r => by rw [wtL, wzL]; have h1 := wt_wz e; have h2 := wtL_wzL r; omega
end

def SmZ (e : Ex) (N : Nat) : Prop := e.fit ∧ e.wz ≤ 64 * e.nodes ∧ e.nodes ≤ N
def SmMZ (e : Ex) (N : Nat) : Prop := SmZ e N ∧ tz e.text ≤ 60 ∧ e.kids.length ≤ 2 ∧ wzL e.kids ≤ 64 * nodesL e.kids

theorem texts10z : ∀ s ∈ texts10n, tz s ≤ 60 := by unfold texts10n tz; decide

set_option maxHeartbeats 1000000 in
theorem l03NameZ {w0 : World} {a : Option Addr} {c : Nat} {l : List UInt8} {g : Nat} {w : World} (hd : Deck w0 a c l g w) :
    Calls Try.prog 36 #[.pointer (some ⟨g, 0, none⟩)] w (Drawn w0 a c l g w (fun v => ∃ s, v = .string s ∧ tz s ≤ 60)) := by
  go_enter Try.func36, Try.ntmps36
  go_wp2_with fail
  refine (pickLit hd texts10n 10 rfl (fun s hs => by have := texts10n_small s hs; unfold maxLen; omega) (by decide) (by decide) _ rfl).mono ?_
  rintro e w1 ⟨v, ⟨s, rfl, hs⟩, rfl, hd1, hg1⟩
  have hss := texts10z s hs
  go_wp2_with fail
  go_ret
  exact ⟨_, ⟨s, rfl, hss⟩, rfl, hd1, (DGE.start hd).alloc _ |>.next hd1 hg1 |>.2⟩

end Go.Proofs.Ytdggcgipchijjaa
