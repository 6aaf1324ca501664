/- The laws' marks: markText answers by its number alone. -/
import Derived.Test.YtdggcgipchijjaaMem
import Derived.Laws.BytesString
import Derived.Deep.RegionHeld3
namespace Go.Proofs.Ytdggcgipchijjaa
open Go.RowKit

/-- The digits of k ahead of out. -/
def digits : Nat → Nat → List UInt8 → List UInt8
  | 0, _, out => out
  | f + 1, k, out => if k = 0 then out else digits f (k / 10) ((48 + UInt8.ofNat (k % 10)) :: out)

theorem digits_step (f k : Nat) (out : List UInt8) (h0 : 0 < k) (hf : k ≤ f) : ∃ f', k / 10 ≤ f' ∧ digits f k out = digits f' (k / 10) ((48 + UInt8.ofNat (k % 10)) :: out) := by
  cases f with
  | zero => omega
  | succ f => exact ⟨f, by omega, by rw [digits, if_neg (by omega)]⟩

theorem digits_zero (f : Nat) (out : List UInt8) : digits f 0 out = out := by
  cases f <;> simp [digits]

def markT (k : Nat) : ByteArray := ⟨((109 : UInt8) :: digits k k []).toArray⟩

theorem ba_cons (x : UInt8) (out : List UInt8) : (⟨#[x]⟩ : ByteArray) ++ ⟨out.toArray⟩ = ⟨(x :: out).toArray⟩ := by
  apply ByteArray.ext
  simp [ByteArray.data_append]

theorem convOne (W : World) (g : Nat) (x : Int) (h : W.cell? ⟨g, 0, none⟩ = some (.int .u8 x)) :
    (convert 22 9 (.slice (some ⟨g, 0, none⟩) 1 1)).run Try.prog W = .ok (.string ⟨#[UInt8.ofNat x.toNat]⟩) W := by
  rw [run_convert_bytes_string W _ _ _ _ _ _ Try.underlying22 Try.underlying5 Try.underlying9, run_bytesToString W _ 1 1 [x]]
  · rfl
  · simp [loadCells, h, go_sem]

set_option maxHeartbeats 400000 in
theorem markText (k0 : Nat) (w : World) (h1 : 1 ≤ k0) (h2 : k0 ≤ 16777216) :
    Calls Try.prog 44 #[.int .i64 (k0 : Int)] w fun e w' => e = .returned (.string (markT k0)) ∧ Below w.heap.size w w' := by
  go_enter Try.func44, Try.ntmps44
  go_wp2
  go_loopw [0, 3] (fun n o wr => ∃ (k f : Nat) (out : List UInt8), n = .int .i64 k ∧ o = .string ⟨out.toArray⟩ ∧ k ≤ f ∧ out.length + k ≤ k0 ∧ Hid (digits f k out = digits k0 k0 []) ∧ Below w.heap.size w wr) (fun n _ _ => (intOf n).toNat)
  case atStart => exact ⟨k0, k0, [], rfl, rfl, by omega, by simp, rfl, Below.refl _ _⟩
  case round =>
    obtain ⟨k, f, out, rfl, rfl, hf, hlen, hd, hb⟩ := hrel
    by_cases hp : 0 < k
    · obtain ⟨f', hf', hst⟩ := digits_step f k out hp hf
      have H := Lib.hid (hst.symm.trans hd.out)
      have hcv := fun (W : World) (g : Nat) (x : Int) => convOne W g x
      clear hst hd
      go_wp2
      go_roundw
      case rel => exact ⟨k / 10, f', (48 + UInt8.ofNat (k % 10)) :: out, by simp, congrArg Value.string (ba_cons _ _), hf', by simp; omega, H, hb.alloc hb.size _⟩
      case measure => simp [intOf]; omega
    · obtain rfl : k = 0 := by omega
      have hd' := hd.out
      rw [digits_zero] at hd'
      have H : Hid (Value.string (⟨#[109]⟩ ++ ⟨out.toArray⟩) = .string (markT k0)) := by
        unfold Hid markT; rw [ba_cons, hd']
      clear hd hd'
      go_wp2
      go_ret
      exact ⟨congrArg Ending.returned H.out, hb⟩

theorem digits_size (f k : Nat) (out : List UInt8) : (digits f k out).length ≤ out.length + f := by
  induction f generalizing k out with
  | zero => simp [digits]
  | succ f ih =>
    rw [digits]
    split
    · omega
    · have := ih (k / 10) ((48 + UInt8.ofNat (k % 10)) :: out)
      simp at this
      omega

theorem markT_size (k : Nat) : (markT k).size ≤ k + 1 := by
  have := digits_size k k []
  simp at this
  simp [markT, ByteArray.size]
  omega

end Go.Proofs.Ytdggcgipchijjaa
