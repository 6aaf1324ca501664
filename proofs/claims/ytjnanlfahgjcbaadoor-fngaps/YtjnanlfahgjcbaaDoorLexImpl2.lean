/- The program's lexer: its small methods. -/
import Derived.Test.YtjnanlfahgjcbaaDoorLexImpl1
import Derived.Test.YtjnanlfahgjcbaaDoorLexSpec6
import Derived.Test.YtjnanlfahgjcbaaDoorShelf
namespace Go.Proofs.YtjnanlfahgjcbaaDoor
open Go.RowKit

theorem quietIs {P : Program} {f : FuncId} {args : Array Value} {w : World} {v v' : Value} (h : Calls P f args w (Quiet w v)) (e : v = v') : Calls P f args w (Quiet w v') := e ▸ h

set_option maxHeartbeats 1000000 in
theorem implMore {w : World} {g : Nat} {s : ByteArray} {k : Nat} (h : LexS w g s k) (hs : s.size ≤ 1048576) (hk : k ≤ 1048577) (v : Bool) (hv : decide (k < s.size) = v) :
    Calls Tryd.prog 26 #[.pointer (some ⟨g, 0, none⟩)] w (Quiet w (.bool v)) := by
  subst hv
  have c0 := h.c0
  have c1 := h.c1
  clear h
  go_enter Tryd.func26, Tryd.ntmps26
  go_wp2_with fail
  go_quiet (fail)
  go_wp2_with fail
  go_ret
  exact ⟨rfl, _, rfl⟩

set_option maxHeartbeats 1000000 in
theorem implHere {w : World} {g : Nat} {s : ByteArray} {k : Nat} (h : LexS w g s k) (hs : s.size ≤ 1048576) (hk : k < s.size) (v : Int) (hv : clB s[k] = v) :
    Calls Tryd.prog 38 #[.pointer (some ⟨g, 0, none⟩)] w (Quiet w (.int .i64 v)) := by
  subst hv
  have c0 := h.c0
  have c1 := h.c1
  have c2 := h.cl s[k]
  have hb := byte_le s[k]
  have h0k : (0 : Int) ≤ (k : Int) := by omega
  have hkk : (k : Int) < (s.size : Int) := by omega
  have h0b : (0 : Int) ≤ (s[k].toNat : Int) := by omega
  have hbb : (s[k].toNat : Int) < 256 := by omega
  clear h
  go_enter Tryd.func38, Tryd.ntmps38
  go_wp2_with fail
  go_quiet (fail)
  go_wp2_with fail
  go_ret
  exact ⟨rfl, _, rfl⟩

theorem byteAll {p : UInt8 → Bool} (h : ((List.range 256).all fun n => p (UInt8.ofNat n)) = true) (b : UInt8) : p b = true := by
  have := List.all_eq_true.1 h b.toNat (List.mem_range.2 (UInt8.toNat_lt b))
  simpa using this
theorem class23 : ((List.range 256).all fun n => moreB (UInt8.ofNat n) == ((clB (UInt8.ofNat n) == 2) || (clB (UInt8.ofNat n) == 3))) = true := by kernel_rfl

set_option maxHeartbeats 1000000 in
theorem implInRun {w : World} {g : Nat} {s : ByteArray} {k : Nat} (h : LexS w g s k) (b : UInt8) (v : Bool) (hv : moreB b = v) :
    Calls Tryd.prog 61 #[.pointer (some ⟨g, 0, none⟩), .int .u8 (b.toNat : Int)] w fun e w' => e = .returned (.bool v) ∧ w = w' := by
  have c2 := h.cl b
  have hb := byte_le b
  have h0b : (0 : Int) ≤ (b.toNat : Int) := by omega
  have hbb : (b.toNat : Int) < 256 := by omega
  have hm : moreB b = ((clB b == 2) || (clB b == 3)) := by simpa using byteAll (p := fun b => moreB b == ((clB b == 2) || (clB b == 3))) class23 b
  generalize clB b = c at c2 hm
  clear h
  rw [hm] at hv
  have HV := Lib.hid hv
  clear hm hv
  cases h1 : (c == 2) with
  | true =>
    have H : Hid (v = true) := by unfold Hid; rw [← HV.out, h1]; rfl
    go_enter Tryd.func61, Tryd.ntmps61
    go_wp2_with fail
    go_ret
    exact ⟨by rw [H.out]; rfl, rfl⟩
  | false =>
    have H : Hid (v = (c == 3)) := by unfold Hid; rw [← HV.out, h1]; rfl
    go_enter Tryd.func61, Tryd.ntmps61
    go_wp2_with fail
    go_ret
    exact ⟨by rw [H.out]; rfl, rfl⟩

theorem cloneText (s : ByteArray) (w : World) (hs : s.size ≤ 1048576) : Calls Tryd.prog 76 #[.string s] w fun e w' => e = .returned (.string s) ∧ Below w.heap.size w w' := by
  go_enter Tryd.func76, Tryd.ntmps76
  go_wp2_with fail
  refine (Tryd.stringslite_Clone s w (by omega)).mono ?_
  rintro e w1 ⟨rfl, hb⟩
  go_wp2_with fail
  go_ret
  exact ⟨rfl, hb⟩

theorem extract_drop (s : ByteArray) (k : Nat) : (s.extract k s.size).data.toList = s.data.toList.drop k := by
  rw [← Lib.toList_data, extract_toList]
  exact List.take_of_length_le (by simp)

set_option maxHeartbeats 1000000 in
theorem implBegins {w : World} {g : Nat} {s : ByteArray} {k : Nat} (h : LexS w g s k) (p : ByteArray) (hs : s.size ≤ 1048576) (hk : k ≤ s.size) (v : Bool) (hv : Lib.hasPrefix (s.data.toList.drop k) p.data.toList = v) :
    Calls Tryd.prog 39 #[.pointer (some ⟨g, 0, none⟩), .string p] w (Quiet w (.bool v)) := by
  have c0 := h.c0
  have c1 := h.c1
  have h0k : (0 : Int) ≤ (k : Int) := by omega
  have hkk : (k : Int) ≤ (s.size : Int) := by omega
  have hcall : ∀ W : World, Calls Tryd.prog 56 #[.string (s.extract k s.size), .string p] W fun e w' => e = .returned (.bool v) ∧ w' = W := fun W => by
    have := Tryd.strings_HasPrefix (s.extract k s.size) p W
    rw [extract_drop, hv] at this
    exact this
  have HC := Lib.hid hcall
  clear hv h hcall
  go_enter Tryd.func39, Tryd.ntmps39
  go_wp2_with fail
  go_quiet ((go_at_call 56; exact Calls.quiet_of_same (HC.out _)))
  go_wp2_with fail
  go_ret
  exact ⟨rfl, _, rfl⟩

end Go.Proofs.YtjnanlfahgjcbaaDoor
