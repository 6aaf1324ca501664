/- The draws' generator comes to every state: plain mathematics. -/
import Derived.RowKit
namespace Go.Proofs.Ytjnanlfahgjcbaa
open Go.RowKit

def stepH (h : Int) : Int := wrap64 (wrap64 (h * 6364136223846793005) + 1442695040888963407)

def iterH : Nat → Int → Int
  | 0, h => h
  | n + 1, h => iterH n (stepH h)

theorem iterH_add : ∀ (m n : Nat) (h : Int), iterH (m + n) h = iterH n (iterH m h)
  | 0, n, h => by rw [Nat.zero_add]; rfl
  | m + 1, n, h => by
    rw [show m + 1 + n = (m + n) + 1 by omega]
    exact iterH_add m n (stepH h)

def inI64 (h : Int) : Prop := -9223372036854775808 ≤ h ∧ h ≤ 9223372036854775807

theorem wrap_in (n : Int) : inI64 (wrap64 n) := by
  unfold inI64 wrap64
  omega

theorem step_in (h : Int) : inI64 (stepH h) := wrap_in _

theorem iter_in : ∀ (n : Nat) (h : Int), inI64 h → inI64 (iterH n h)
  | 0, _, hh => hh
  | n + 1, h, _ => iter_in n (stepH h) (step_in h)

theorem step_form (h : Int) : ∃ z, stepH h = h * 6364136223846793005 + 1442695040888963407 + 18446744073709551616 * z := by
  unfold stepH wrap64
  generalize h * 6364136223846793005 = N
  refine ⟨-((N + 9223372036854775808) / 18446744073709551616) - (((N + 9223372036854775808) % 18446744073709551616 - 9223372036854775808 + 1442695040888963407 + 9223372036854775808) / 18446744073709551616), ?_⟩
  omega

theorem affine : ∀ k : Nat, ∃ m r : Int, ∀ x : Int, ∃ z, iterH (2 ^ k) x = (1 + 4 * (2 : Int) ^ k * m) * x + (2 : Int) ^ k * (2 * r + 1) + 18446744073709551616 * z
  | 0 => by
    refine ⟨1591034055961698251, 721347520444481703, fun x => ?_⟩
    obtain ⟨z, hz⟩ := step_form x
    refine ⟨z, ?_⟩
    show stepH x = _
    rw [hz]
    grind
  | k + 1 => by
    obtain ⟨m, r, h⟩ := affine k
    refine ⟨m + 2 * (2 : Int) ^ k * m * m, r + (2 : Int) ^ k * m * (2 * r + 1), fun x => ?_⟩
    obtain ⟨z1, h1⟩ := h x
    obtain ⟨z2, h2⟩ := h (iterH (2 ^ k) x)
    refine ⟨(1 + 4 * (2 : Int) ^ k * m) * z1 + z2, ?_⟩
    rw [Nat.pow_succ, Nat.mul_two, iterH_add, h2, h1, Int.pow_succ]
    generalize (2 : Int) ^ k = p
    grind

theorem lift : ∀ k : Nat, k ≤ 64 → ∀ h t : Int, ∃ n q, n < 2 ^ k ∧ iterH n h = t + (2 : Int) ^ k * q
  | 0, _, h, t => ⟨0, h - t, by decide, by show h = _; rw [Int.pow_zero]; omega⟩
  | k + 1, hk, h, t => by
    obtain ⟨n, q, hn, he⟩ := lift k (by omega) h t
    rcases Int.emod_two_eq q with h0 | h1
    · refine ⟨n, q / 2, by rw [Nat.pow_succ]; omega, ?_⟩
      rw [he, Int.pow_succ]
      have : q = 2 * (q / 2) := by omega
      generalize (2 : Int) ^ k = p
      generalize q / 2 = s at this
      subst this
      grind
    · obtain ⟨m, r, ha⟩ := affine k
      obtain ⟨z, hz⟩ := ha (iterH n h)
      have hQ : (18446744073709551616 : Int) = (2 : Int) ^ k * 2 * (2 : Int) ^ (63 - k) := by
        rw [← Int.pow_succ, ← Int.pow_add, show k + 1 + (63 - k) = 64 by omega]
        rfl
      refine ⟨n + 2 ^ k, 2 * m * (iterH n h) + r + q / 2 + 1 + (2 : Int) ^ (63 - k) * z, by rw [Nat.pow_succ]; omega, ?_⟩
      rw [iterH_add, hz, Int.pow_succ, hQ]
      generalize iterH n h = y at *
      have : q = 2 * (q / 2) + 1 := by omega
      generalize q / 2 = s at *
      subst this
      generalize (2 : Int) ^ k = p at *
      generalize (2 : Int) ^ (63 - k) = p' at *
      grind

theorem reach (h t : Int) (hh : inI64 h) (ht : inI64 t) : ∃ n, n < 2 ^ 64 ∧ iterH n h = t := by
  obtain ⟨n, q, hn, he⟩ := lift 64 (Nat.le_refl _) h t
  refine ⟨n, hn, ?_⟩
  have h1 := iter_in n h hh
  rw [show (2 : Int) ^ 64 = 18446744073709551616 from rfl] at he
  unfold inI64 at h1 ht
  omega

theorem least {p : Nat → Prop} : ∀ n, p n → ∃ m, m ≤ n ∧ p m ∧ ∀ j, j < m → ¬ p j := by
  intro n
  induction n using Nat.strongRecOn with
  | ind n ih =>
    intro hp
    by_cases h : ∃ j, j < n ∧ p j
    · obtain ⟨j, hj, hpj⟩ := h
      obtain ⟨m, h1, h2, h3⟩ := ih j hj hpj
      exact ⟨m, by omega, h2, h3⟩
    · exact ⟨n, Nat.le_refl _, hp, fun j hj hpj => h ⟨j, hj, hpj⟩⟩

/-- A state behind which three draws in a row write a byte. -/
def goal0 : Int := 8
def goal1 : Int := stepH goal0
def goal2 : Int := stepH goal1

theorem far (h : Int) : ∃ m, m ≤ 2 ^ 64 ∧ iterH m h = goal0 ∧ ∀ j, j < m → iterH j h ≠ goal0 := by
  obtain ⟨n, hn, he⟩ := reach (stepH h) goal0 (step_in h) (by unfold inI64 goal0; omega)
  obtain ⟨m, h1, h2, h3⟩ := least (p := fun n => iterH n h = goal0) (n + 1) he
  exact ⟨m, by omega, h2, h3⟩

open Classical in
/-- How far the goal is. -/
noncomputable def farH (h : Int) : Nat := if h = goal1 ∨ h = goal2 then 0 else (far h).choose

theorem farH_lt (h : Int) : farH h ≤ 2 ^ 64 := by
  unfold farH
  split
  · decide
  · exact (far h).choose_spec.1

theorem farH_le {h : Int} {n : Nat} (he : iterH n h = goal0) : farH h ≤ n := by
  unfold farH
  split
  · omega
  · have := (far h).choose_spec.2.2
    rcases Nat.lt_or_ge n (far h).choose with hlt | hge
    · exact absurd he (this n hlt)
    · exact hge

/-- A state that is none of the three: one step or three bring the goal nearer. -/
theorem nearer {h : Int} (h0 : h ≠ goal0) (h1 : h ≠ goal1) (h2 : h ≠ goal2) : farH (stepH h) < farH h ∧ farH (stepH (stepH (stepH h))) < farH h := by
  have hd : farH h = (far h).choose := by unfold farH; rw [if_neg (by rintro (e | e) <;> contradiction)]
  obtain ⟨_, he, _⟩ := (far h).choose_spec
  rw [← hd] at he
  generalize farH h = d at *
  cases d with
  | zero => exact absurd he h0
  | succ d =>
    have he1 : iterH d (stepH h) = goal0 := he
    refine ⟨Nat.lt_succ_of_le (farH_le he1), ?_⟩
    cases d with
    | zero =>
      have e : stepH h = goal0 := he1
      rw [e]
      have : farH (stepH (stepH goal0)) = 0 := by unfold farH; rw [if_pos (.inr rfl)]
      omega
    | succ d =>
      have he2 : iterH d (stepH (stepH h)) = goal0 := he1
      cases d with
      | zero =>
        have e : stepH (stepH h) = goal0 := he2
        rw [e]
        have : farH (stepH goal0) = 0 := by unfold farH; rw [if_pos (.inl rfl)]
        omega
      | succ d =>
        have := farH_le (show iterH d (stepH (stepH (stepH h))) = goal0 from he2)
        omega

end Go.Proofs.Ytjnanlfahgjcbaa
