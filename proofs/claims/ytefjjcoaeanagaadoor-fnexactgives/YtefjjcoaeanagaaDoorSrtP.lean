/- What the values of an expression are, by the model's rules: pure. -/
import Derived.Test.YtefjjcoaeanagaaDoorMHas
import Derived.Test.YtefjjcoaeanagaaDoorDat
import Derived.Test.YtefjjcoaeanagaaDoorTyp
namespace Go.Proofs.YtefjjcoaeanagaaDoor
open Go.RowKit

structure So where
  kind : Int
  name : ByteArray

def So.v (s : So) : Value := .agg #[.int .i64 s.kind, .string s.name]
def soK (k : Int) : So := ⟨k, ByteArray.empty⟩
def soEq (a b : So) : Bool := a.kind == b.kind && a.name.toList == b.name.toList

def typS (t : Ty) : So := if (t.kind == 0) = true then soK 0 else if (t.kind == 2) = true then soK 2 else if (t.kind == 4) = true then ⟨3, t.name⟩ else soK 1

/-- Whether two kids fit. -/
def fitS (ls : List Lb) (x y : Ex) (a b : So) : Bool :=
  if soEq a b = true then true else if (a.kind == 4) = true then true else if (b.kind == 4) = true then true
  else if (a.kind == 3) = true ∧ (y.kind == 2) = true then labB ls a.name y.text
  else if (b.kind == 3) = true ∧ (x.kind == 2) = true then labB ls b.name x.text else false

def allS (xs : List So) (k : Int) : Bool := xs.all fun x => x.kind == k || x.kind == 4

/-- One sort in two cells. -/
def RSo : Rd So := fun _ _ vs s => vs = [.int .i64 s.kind, .string s.name]

theorem goodSo : Good RSo := ⟨fun h _ => h, fun h _ => h⟩

theorem allS_hit (xs : List So) (k : Int) (i : Nat) (h : i < xs.length) (h1 : (xs[i].kind != k) = true) (h2 : (xs[i].kind != 4) = true) : allS xs k = false := by
  unfold allS
  rw [List.all_eq_false]
  exact ⟨xs[i], List.getElem_mem h, by simp at h1 h2 ⊢; exact ⟨h1, h2⟩⟩

theorem allS_all (xs : List So) (k : Int) (h : ∀ m (hm : m < xs.length), (xs[m].kind == k || xs[m].kind == 4) = true) : allS xs k = true := by
  unfold allS
  rw [List.all_eq_true]
  intro x hx
  obtain ⟨i, hi, rfl⟩ := List.mem_iff_getElem.1 hx
  exact h i hi

set_option maxHeartbeats 1000000 in
theorem specAllS (a : Option Addr) (c : Nat) (xs : List So) (kd : Int) (w : World) (hx : Sl 2 RSo 0 w a c xs) :
    Calls Tryd.prog 67 #[.slice a xs.length c, .int .i64 kd] w fun e w' => e = .returned (.bool (allS xs kd)) ∧ Below w.heap.size w w' := by
  have hl := hx.len
  go_enter Tryd.func67, Tryd.ntmps67
  go_wp2_with fail
  go_loopw [5] (fun i wr => ∃ k : Nat, k ≤ xs.length ∧ i = .int .i64 k ∧ Hid (∀ m (hm : m < xs.length), m < k → (xs[m].kind == kd || xs[m].kind == 4) = true) ∧ Hid (wr = w)) (fun i _ => xs.length - (intOf i).toNat)
  case atStart => exact ⟨0, Nat.zero_le _, rfl, fun m h hm => absurd hm (by omega), rfl⟩
  case round =>
    obtain ⟨k, hk, rfl, hall, hw⟩ := hrel
    have hxr : Sl 2 RSo 0 wr a c xs := by rw [hw.out]; exact hx
    by_cases hlt : k < xs.length
    · obtain ⟨b, off, vs, rfl, hbl, hcs, hR⟩ := hxr.spot hlt
      unfold RSo at hR
      subst hR
      have hc0 : wr.cell? ⟨b, off + k * 2, none⟩ = some (.int .i64 xs[k].kind) := hcs 0 (by simp)
      have hc1 : wr.cell? ⟨b, off + k * 2 + 1, none⟩ = some (.string xs[k].name) := hcs 1 (by simp)
      clear hcs hxr
      cases h1 : (xs[k].kind != kd) with
      | true =>
        cases h2 : (xs[k].kind != 4) with
        | true =>
          have HE := Lib.hid (allS_hit xs kd k hlt h1 h2)
          go_wp2_with fail
          go_ret
          exact ⟨by rw [HE.out]; rfl, by rw [hw.out]; exact Below.refl _ _⟩
        | false =>
          have HE : Hid ((xs[k].kind == kd || xs[k].kind == 4) = true) := by unfold Hid; simp at h2 ⊢; exact .inr h2
          go_wp2_with fail
          go_roundw
          case rel => exact ⟨k + 1, by omega, by go_num, fun m hm hk1 => by
            rcases Nat.lt_or_ge m k with h2 | h2
            · exact hall.out m hm h2
            · obtain rfl : m = k := by omega
              exact HE.out, hw⟩
          case measure => simp [intOf]; omega
      | false =>
        have HE : Hid ((xs[k].kind == kd || xs[k].kind == 4) = true) := by unfold Hid; simp at h1 ⊢; exact .inl h1
        go_wp2_with fail
        go_roundw
        case rel => exact ⟨k + 1, by omega, by go_num, fun m hm hk1 => by
          rcases Nat.lt_or_ge m k with h2 | h2
          · exact hall.out m hm h2
          · obtain rfl : m = k := by omega
            exact HE.out, hw⟩
        case measure => simp [intOf]; omega
    · have HE := Lib.hid (allS_all xs kd fun m hm => hall.out m hm (by omega))
      go_wp2_with fail
      go_ret
      exact ⟨by rw [HE.out]; rfl, by rw [hw.out]; exact Below.refl _ _⟩

set_option maxHeartbeats 1000000 in
theorem specTypeS (k l : Int) (s : ByteArray) (w : World) :
    Calls Tryd.prog 60 #[.agg #[.int .i64 k, .int .i64 l, .string s]] w fun e w' => e = .returned (typS ⟨k, l, s⟩).v ∧ Below w.heap.size w w' := by
  have hb : ∀ o1 o2, Below w.heap.size w ((w.alloc o1).alloc o2) := fun o1 o2 => ((Below.refl _ _).alloc (Nat.le_refl _) _).alloc (by simp) _
  unfold typS
  cases h0 : (k == 0) with
  | true =>
    go_enter Tryd.func60, Tryd.ntmps60
    go_wp2_with fail
    refine bodyPost_ret (v := .agg #[.int .i64 0, .string ByteArray.empty]) (by simp [results, Tryd.results60, go_sem]; rfl) rfl ⟨rfl, hb _ _⟩
  | false =>
    cases h1 : (k == 2) with
    | true =>
      go_enter Tryd.func60, Tryd.ntmps60
      go_wp2_with fail
      refine bodyPost_ret (v := .agg #[.int .i64 2, .string ByteArray.empty]) (by simp [results, Tryd.results60, go_sem]; rfl) rfl ⟨rfl, hb _ _⟩
    | false =>
      cases h2 : (k == 4) with
      | true =>
        go_enter Tryd.func60, Tryd.ntmps60
        go_wp2_with fail
        refine bodyPost_ret (v := .agg #[.int .i64 3, .string s]) (by simp [results, Tryd.results60, go_sem]) rfl ⟨rfl, hb _ _⟩
      | false =>
        go_enter Tryd.func60, Tryd.ntmps60
        go_wp2_with fail
        refine bodyPost_ret (v := .agg #[.int .i64 1, .string ByteArray.empty]) (by simp [results, Tryd.results60, go_sem]; rfl) rfl ⟨rfl, hb _ _⟩

end Go.Proofs.YtefjjcoaeanagaaDoor
