/- A right type is read back from the words of its text. -/
import Derived.Test.YtjjdcdnaonfnmaaGreatDoorMSrd5
namespace Go.Proofs.YtjjdcdnaonfnmaaGreatDoor

theorem kt_cons {ts : List Tok} {x : Nat × List UInt8} {xs : List (Nat × List UInt8)} (h : kt ts = x :: xs) : ∃ y r, ts = y :: r ∧ y.kind = x.1 ∧ y.text = x.2 ∧ kt r = xs := by
  cases ts with
  | nil => cases h
  | cons y r =>
    have h' : (y.kind, y.text) :: kt r = x :: xs := h
    obtain ⟨h1, h2⟩ := List.cons.inj h'
    exact ⟨y, r, rfl, by rw [← h1], by rw [← h1], h2⟩
theorem kt_nil {ts : List Tok} (h : kt ts = []) : ts = [] := List.map_eq_nil_iff.1 h

theorem tkOf_text (y : Tok) : (tkOf y).text = txt y.text := rfl

theorem hit_cons (x : Tk) (l : List Tk) (k : Int) (t : ByteArray) : hitT (x :: l) 0 k t = (x.kind == k && x.text.toList == t.toList) := rfl

theorem form_words : formI (txt wInt) 5 0 = some 0 ∧ formI (txt wText) 5 0 = some 1 ∧ formI (txt wBool) 5 0 = some 2 ∧ formI (txt wChar) 5 0 = some 3 ∧ formI (txt wEnum) 5 0 = some 4 := by
  refine ⟨?_, ?_, ?_, ?_, ?_⟩ <;> (simp only [formI, Lib.toList_data]; rfl)

theorem typeI_of {l : List Tk} {i j : Nat} {t : ByteArray} (h1 : valT l i 0 = some t) (h2 : formI t 5 0 = some j) : typeI l i = tyI l (i + 1) j := by
  unfold typeI
  rw [h1]
  simp only
  rw [h2]

/-- A right type is read back from its words. -/
theorem type_back {k n : Int} {s : ByteArray} (h : typeOkB k n s = true) {ts : List Tok} (ht : kt ts = typeW k n s) : typeP (ts.map tkOf) 0 = some (k, n, s, (ts.map tkOf).length) := by
  have hw : ∀ (y : Tok) (t : List UInt8), y.text = t → (tkOf y).text = txt t := fun y t e => by rw [tkOf_text, e]
  have key : typeI (ts.map tkOf) 0 = some (k, n, s, (ts.map tkOf).length) := by
    rcases type_kinds h with (⟨rfl | rfl | rfl, rfl, rfl⟩ | ⟨rfl, h1, h2, rfl⟩) | ⟨rfl, rfl, hn⟩
    · obtain ⟨y, r, rfl, y1, y2, y3⟩ := kt_cons ht
      cases kt_nil y3
      obtain ⟨yk, yt, ya⟩ := y
      simp only at y1 y2
      subst y1 y2
      exact typeI_of (t := txt wInt) rfl form_words.1
    · obtain ⟨y, r, rfl, y1, y2, y3⟩ := kt_cons ht
      cases kt_nil y3
      obtain ⟨yk, yt, ya⟩ := y
      simp only at y1 y2
      subst y1 y2
      exact typeI_of (t := txt wText) rfl form_words.2.1
    · obtain ⟨y, r, rfl, y1, y2, y3⟩ := kt_cons ht
      cases kt_nil y3
      obtain ⟨yk, yt, ya⟩ := y
      simp only at y1 y2
      subst y1 y2
      exact typeI_of (t := txt wBool) rfl form_words.2.2.1
    · obtain ⟨y, r, rfl, y1, y2, y3⟩ := kt_cons ht
      obtain ⟨y', r', rfl, y1', y2', y3'⟩ := kt_cons y3
      obtain ⟨z, r2, rfl, z1, z2, z3⟩ := kt_cons y3'
      obtain ⟨u, r3, rfl, u1, u2, u3⟩ := kt_cons z3
      cases kt_nil u3
      obtain ⟨yk, yt, ya⟩ := y
      obtain ⟨yk', yt', ya'⟩ := y'
      obtain ⟨zk, zt, za⟩ := z
      obtain ⟨uk, ut, ua⟩ := u
      simp only at y1 y2 y1' y2' z1 z2 u1 u2
      subst y1 y2 y1' y2' z1 z2 u1 u2
      have hr := readD_inB n (by omega) (by omega)
      rw [typeI_of (t := txt wChar) rfl form_words.2.2.2.1]
      show lenI _ 1 3 = _
      have q1 : hitT ([⟨0, wChar, ya⟩, ⟨4, [40], ya'⟩, ⟨2, Lib.itoa n, za⟩, ⟨4, [41], ua⟩].map tkOf) 1 4 ⟨#[40]⟩ = true := by
        show (((4 : Nat) : Int) == 4 && (txt [40]).toList == (ByteArray.mk #[40]).toList) = true
        rw [Lib.toList_data, Lib.toList_data]; rfl
      have q2 : valT ([⟨0, wChar, ya⟩, ⟨4, [40], ya'⟩, ⟨2, Lib.itoa n, za⟩, ⟨4, [41], ua⟩].map tkOf) (1 + 1) 2 = some (txt (Lib.itoa n)) := rfl
      have q3 : hitT ([⟨0, wChar, ya⟩, ⟨4, [40], ya'⟩, ⟨2, Lib.itoa n, za⟩, ⟨4, [41], ua⟩].map tkOf) (1 + 2) 4 ⟨#[41]⟩ = true := by
        show (((4 : Nat) : Int) == 4 && (txt [41]).toList == (ByteArray.mk #[41]).toList) = true
        rw [Lib.toList_data, Lib.toList_data]; rfl
      unfold lenI
      rw [if_pos q1, q2]
      simp only
      rw [if_pos q3]
      have e : (txt (Lib.itoa n)).data.toList = Lib.itoa n := by unfold txt; simp
      rw [e, hr]
      rfl
    · obtain ⟨y, r, rfl, y1, y2, y3⟩ := kt_cons ht
      obtain ⟨y', r', rfl, y1', y2', y3'⟩ := kt_cons y3
      cases kt_nil y3'
      obtain ⟨yk, yt, ya⟩ := y
      obtain ⟨yk', yt', ya'⟩ := y'
      simp only at y1 y2 y1' y2'
      subst y1 y2 y1' y2'
      rw [typeI_of (t := txt wEnum) rfl form_words.2.2.2.2]
      show (nameI _ 1).map _ = _
      have e : nameI ([⟨0, wEnum, ya⟩, ⟨nameK s, s.data.toList, ya'⟩].map tkOf) 1 = some s := by
        unfold nameI
        show (if ((nameK s : Nat) : Int) = 1 then some (txt s.data.toList) else if ((nameK s : Nat) : Int) = 0 ∧ keptB (txt s.data.toList).toList = false then some (txt s.data.toList) else none) = some s
        rw [txt_data]
        unfold nameK
        by_cases hp : (plainB s.data.toList && !keptB s.data.toList) = true
        · rw [if_pos hp, if_neg (by decide), if_pos]
          rw [Bool.and_eq_true, Bool.not_eq_true'] at hp
          rw [Lib.toList_data]
          exact ⟨rfl, hp.2⟩
        · rw [if_neg hp, if_pos (by decide)]
      rw [e]
      rfl
  unfold typeP
  rw [if_neg (by decide), show (0 : Int).toNat = 0 from rfl, key]
  simp only
  rw [if_pos h]

end Go.Proofs.YtjjdcdnaonfnmaaGreatDoor
