/- Operands: what impl.sorter knows of an expression; impl.allOf. -/
import Derived.Test.YtefjjcoaeanagaaDoorMem
import Derived.Handy
namespace Go.Proofs.YtefjjcoaeanagaaDoor
open Go.RowKit

inductive Opd where
  | plain (k : Int)
  | text (s : ByteArray)
  | enum (s : ByteArray)

def Opd.v : Opd → Value
  | .plain k => .iface 110 (.int .i64 k)
  | .text s => .iface 111 (.string s)
  | .enum s => .iface 112 (.string s)

def Opd.kind : Opd → Int
  | .plain k => k
  | .text _ => 1
  | .enum _ => 3

/-- The slice (a, length of xs, c) holds the operands xs. -/
def Opds (w : World) (a : Option Addr) (c : Nat) (xs : List Opd) : Prop :=
  xs.length ≤ c ∧ c ≤ maxLen ∧ (a = none → c = 0) ∧ (0 < xs.length → ∃ b off, a = some ⟨b, off, none⟩ ∧ b < w.heap.size ∧ ∀ (i : Nat) (h : i < xs.length), w.cell? ⟨b, off + i, none⟩ = some xs[i].v)

theorem Opds.spot {w : World} {a : Option Addr} {c : Nat} {xs : List Opd} (h : Opds w a c xs) {k : Nat} (hk : k < xs.length) :
    ∃ b off, a = some ⟨b, off, none⟩ ∧ b < w.heap.size ∧ w.cell? ⟨b, off + k, none⟩ = some xs[k].v := by
  obtain ⟨_, _, _, h4⟩ := h
  obtain ⟨b, off, ha, hb, hc⟩ := h4 (by omega)
  exact ⟨b, off, ha, hb, hc k hk⟩

theorem Opds.below {w w' : World} {a : Option Addr} {c : Nat} {xs : List Opd} (h : Opds w a c xs) (hb : Below w.heap.size w w') : Opds w' a c xs := by
  obtain ⟨h1, h2, h3, h4⟩ := h
  refine ⟨h1, h2, h3, fun hp => ?_⟩
  obtain ⟨b, off, ha, hlt, hc⟩ := h4 hp
  exact ⟨b, off, ha, Nat.lt_of_lt_of_le hlt hb.size, fun i hi => (hb.cell (p := ⟨b, off + i, none⟩) hlt).trans (hc i hi)⟩

theorem Opds.len {w : World} {a : Option Addr} {c : Nat} {xs : List Opd} (h : Opds w a c xs) : xs.length ≤ 9223372036854775807 := by
  have h1 := h.1
  have h2 := h.2.1
  unfold maxLen at h2
  omega

theorem kindPlain (k : Int) (w : World) : Calls Tryd.prog 135 #[.int .i64 k] w fun e w' => e = .returned (.int .i64 k) ∧ w' = w := by
  go_enter Tryd.func135, Tryd.ntmps135
  go_wp2
  go_ret
  exact ⟨rfl, rfl⟩

theorem kindText (s : ByteArray) (w : World) : Calls Tryd.prog 136 #[.string s] w fun e w' => e = .returned (.int .i64 1) ∧ w' = w := by
  go_enter Tryd.func136, Tryd.ntmps136
  go_wp2
  go_ret
  exact ⟨rfl, rfl⟩

theorem kindEnum (s : ByteArray) (w : World) : Calls Tryd.prog 137 #[.string s] w fun e w' => e = .returned (.int .i64 3) ∧ w' = w := by
  go_enter Tryd.func137, Tryd.ntmps137
  go_wp2
  go_ret
  exact ⟨rfl, rfl⟩

/-- Every operand is of the kind, or null. -/
def allK (xs : List Opd) (k : Int) : Bool := xs.all fun x => x.kind == k || x.kind == 4

theorem allK_hit (xs : List Opd) (k : Int) (i : Nat) (h : i < xs.length) (h1 : (xs[i].kind != k) = true) (h2 : (xs[i].kind != 4) = true) : allK xs k = false := by
  unfold allK
  rw [List.all_eq_false]
  exact ⟨xs[i], List.getElem_mem h, by simp at h1 h2 ⊢; exact ⟨h1, h2⟩⟩

theorem allK_next {xs : List Opd} {k : Int} {j : Nat} {hj : j < xs.length} (hall : ∀ m (h : m < xs.length), m < j → (xs[m].kind == k || xs[m].kind == 4) = true) (hg : (xs[j].kind == k || xs[j].kind == 4) = true) :
    Hid (∀ m (h : m < xs.length), m < j + 1 → (xs[m].kind == k || xs[m].kind == 4) = true) := by
  intro m h hm
  rcases Nat.lt_or_ge m j with h2 | h2
  · exact hall m h h2
  · obtain rfl : m = j := by omega
    exact hg

set_option maxRecDepth 100000 in
set_option maxHeartbeats 1000000 in
theorem implAllOf (a : Option Addr) (c : Nat) (xs : List Opd) (k : Int) (w : World) (hx : Opds w a c xs) :
    Calls Tryd.prog 99 #[.slice a xs.length c, .int .i64 k] w fun e w' => e = .returned (.bool (allK xs k)) ∧ w' = w := by
  have hl := hx.len
  go_enter Tryd.func99, Tryd.ntmps99
  go_wp2
  go_loopw [9] (fun i wr => ∃ j : Nat, j ≤ xs.length ∧ i = .int .i64 j ∧ Hid (∀ m (h : m < xs.length), m < j → (xs[m].kind == k || xs[m].kind == 4) = true) ∧ wr = w) (fun i _ => xs.length - (intOf i).toNat)
  case atStart => exact ⟨0, Nat.zero_le _, rfl, fun m h hm => absurd hm (by omega), rfl⟩
  case round =>
    obtain ⟨j, hj, rfl, hall, rfl⟩ := hrel
    by_cases hlt : j < xs.length
    · obtain ⟨b, off, rfl, hbl, hc⟩ := hx.spot hlt
      obtain ⟨x, hxx⟩ : ∃ x, x = xs[j] := ⟨_, rfl⟩
      rw [← hxx] at hc
      have HX := Lib.hid hxx
      clear hxx
      cases x with
      | plain q =>
        simp only [Opd.v] at hc
        have HKD : Hid (xs[j].kind = q) := by unfold Hid; rw [← HX.out]; rfl
        cases h1 : ((q : Int) != k) with
        | false =>
          have HG : Hid ((xs[j].kind == k || xs[j].kind == 4) = true) := by
            unfold Hid; rw [HKD.out]
            have : (q : Int) = k := by simpa using h1
            simp [this]
          go_wp2_with (first
            | (go_at_call 135; refine (kindPlain _ _).mono ?_; rintro e w' ⟨rfl, rfl⟩)
            | (go_at_call 136; refine (kindText _ _).mono ?_; rintro e w' ⟨rfl, rfl⟩)
            | (go_at_call 137; refine (kindEnum _ _).mono ?_; rintro e w' ⟨rfl, rfl⟩))
          go_roundw
          case rel => first | exact ⟨j + 1, by omega, by go_num, allK_next hall.out HG.out, rfl⟩ | exact ⟨j + 1, by omega, by go_num, allK_next hall.out HG.out, trivial⟩
          case measure => simp [intOf]; omega
        | true =>
          cases h2 : ((q : Int) != 4) with
          | false =>
            have HG : Hid ((xs[j].kind == k || xs[j].kind == 4) = true) := by
              unfold Hid; rw [HKD.out]
              have : (q : Int) = 4 := by simpa using h2
              simp [this]
            go_wp2_with (first
            | (go_at_call 135; refine (kindPlain _ _).mono ?_; rintro e w' ⟨rfl, rfl⟩)
            | (go_at_call 136; refine (kindText _ _).mono ?_; rintro e w' ⟨rfl, rfl⟩)
            | (go_at_call 137; refine (kindEnum _ _).mono ?_; rintro e w' ⟨rfl, rfl⟩))
            go_roundw
            case rel => first | exact ⟨j + 1, by omega, by go_num, allK_next hall.out HG.out, rfl⟩ | exact ⟨j + 1, by omega, by go_num, allK_next hall.out HG.out, trivial⟩
            case measure => simp [intOf]; omega
          | true =>
            have HF : Hid (allK xs k = false) := allK_hit xs k j hlt (by rw [HKD.out]; exact h1) (by rw [HKD.out]; exact h2)
            go_wp2_with (first
            | (go_at_call 135; refine (kindPlain _ _).mono ?_; rintro e w' ⟨rfl, rfl⟩)
            | (go_at_call 136; refine (kindText _ _).mono ?_; rintro e w' ⟨rfl, rfl⟩)
            | (go_at_call 137; refine (kindEnum _ _).mono ?_; rintro e w' ⟨rfl, rfl⟩))
            go_ret
            exact ⟨by rw [HF.out]; rfl, rfl⟩
      | text s =>
        simp only [Opd.v] at hc
        have HKD : Hid (xs[j].kind = 1) := by unfold Hid; rw [← HX.out]; rfl
        cases h1 : ((1 : Int) != k) with
        | false =>
          have HG : Hid ((xs[j].kind == k || xs[j].kind == 4) = true) := by
            unfold Hid; rw [HKD.out]
            have : (1 : Int) = k := by simpa using h1
            simp [this]
          go_wp2_with (first
            | (go_at_call 135; refine (kindPlain _ _).mono ?_; rintro e w' ⟨rfl, rfl⟩)
            | (go_at_call 136; refine (kindText _ _).mono ?_; rintro e w' ⟨rfl, rfl⟩)
            | (go_at_call 137; refine (kindEnum _ _).mono ?_; rintro e w' ⟨rfl, rfl⟩))
          go_roundw
          case rel => first | exact ⟨j + 1, by omega, by go_num, allK_next hall.out HG.out, rfl⟩ | exact ⟨j + 1, by omega, by go_num, allK_next hall.out HG.out, trivial⟩
          case measure => simp [intOf]; omega
        | true =>
          cases h2 : ((1 : Int) != 4) with
          | false =>
            have HG : Hid ((xs[j].kind == k || xs[j].kind == 4) = true) := by
              unfold Hid; rw [HKD.out]
              simp at h2
            go_wp2_with (first
            | (go_at_call 135; refine (kindPlain _ _).mono ?_; rintro e w' ⟨rfl, rfl⟩)
            | (go_at_call 136; refine (kindText _ _).mono ?_; rintro e w' ⟨rfl, rfl⟩)
            | (go_at_call 137; refine (kindEnum _ _).mono ?_; rintro e w' ⟨rfl, rfl⟩))
            go_roundw
            case rel => first | exact ⟨j + 1, by omega, by go_num, allK_next hall.out HG.out, rfl⟩ | exact ⟨j + 1, by omega, by go_num, allK_next hall.out HG.out, trivial⟩
            case measure => simp [intOf]; omega
          | true =>
            have HF : Hid (allK xs k = false) := allK_hit xs k j hlt (by rw [HKD.out]; exact h1) (by rw [HKD.out]; exact h2)
            go_wp2_with (first
            | (go_at_call 135; refine (kindPlain _ _).mono ?_; rintro e w' ⟨rfl, rfl⟩)
            | (go_at_call 136; refine (kindText _ _).mono ?_; rintro e w' ⟨rfl, rfl⟩)
            | (go_at_call 137; refine (kindEnum _ _).mono ?_; rintro e w' ⟨rfl, rfl⟩))
            go_ret
            exact ⟨by rw [HF.out]; rfl, rfl⟩
      | enum s =>
        simp only [Opd.v] at hc
        have HKD : Hid (xs[j].kind = 3) := by unfold Hid; rw [← HX.out]; rfl
        cases h1 : ((3 : Int) != k) with
        | false =>
          have HG : Hid ((xs[j].kind == k || xs[j].kind == 4) = true) := by
            unfold Hid; rw [HKD.out]
            have : (3 : Int) = k := by simpa using h1
            simp [this]
          go_wp2_with (first
            | (go_at_call 135; refine (kindPlain _ _).mono ?_; rintro e w' ⟨rfl, rfl⟩)
            | (go_at_call 136; refine (kindText _ _).mono ?_; rintro e w' ⟨rfl, rfl⟩)
            | (go_at_call 137; refine (kindEnum _ _).mono ?_; rintro e w' ⟨rfl, rfl⟩))
          go_roundw
          case rel => first | exact ⟨j + 1, by omega, by go_num, allK_next hall.out HG.out, rfl⟩ | exact ⟨j + 1, by omega, by go_num, allK_next hall.out HG.out, trivial⟩
          case measure => simp [intOf]; omega
        | true =>
          cases h2 : ((3 : Int) != 4) with
          | false =>
            have HG : Hid ((xs[j].kind == k || xs[j].kind == 4) = true) := by
              unfold Hid; rw [HKD.out]
              simp at h2
            go_wp2_with (first
            | (go_at_call 135; refine (kindPlain _ _).mono ?_; rintro e w' ⟨rfl, rfl⟩)
            | (go_at_call 136; refine (kindText _ _).mono ?_; rintro e w' ⟨rfl, rfl⟩)
            | (go_at_call 137; refine (kindEnum _ _).mono ?_; rintro e w' ⟨rfl, rfl⟩))
            go_roundw
            case rel => first | exact ⟨j + 1, by omega, by go_num, allK_next hall.out HG.out, rfl⟩ | exact ⟨j + 1, by omega, by go_num, allK_next hall.out HG.out, trivial⟩
            case measure => simp [intOf]; omega
          | true =>
            have HF : Hid (allK xs k = false) := allK_hit xs k j hlt (by rw [HKD.out]; exact h1) (by rw [HKD.out]; exact h2)
            go_wp2_with (first
            | (go_at_call 135; refine (kindPlain _ _).mono ?_; rintro e w' ⟨rfl, rfl⟩)
            | (go_at_call 136; refine (kindText _ _).mono ?_; rintro e w' ⟨rfl, rfl⟩)
            | (go_at_call 137; refine (kindEnum _ _).mono ?_; rintro e w' ⟨rfl, rfl⟩))
            go_ret
            exact ⟨by rw [HF.out]; rfl, rfl⟩
    · have HF : Hid (allK xs k = true) := by
        unfold Hid allK
        rw [List.all_eq_true]
        intro x hx
        obtain ⟨m, hm, rfl⟩ := List.mem_iff_getElem.1 hx
        exact hall.out m hm (by omega)
      go_wp2_with fail
      go_ret
      exact ⟨by rw [HF.out]; rfl, rfl⟩

end Go.Proofs.YtefjjcoaeanagaaDoor
