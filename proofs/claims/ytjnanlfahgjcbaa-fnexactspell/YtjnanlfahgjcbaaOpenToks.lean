/- How a slice of words among a law's arguments is opened. -/
import Derived.Test.YtjnanlfahgjcbaaToks
import Derived.Test.YtjnanlfahgjcbaaOpen
import Derived.Deep.Slices
import Derived.ChangeArms
namespace Go.Proofs.Ytjnanlfahgjcbaa
open Go.ChangeShapes Go.WideShapes Go.ChangeAt Go.RowKit

theorem isI64_of {n : Int} (h : (Lit.int .i64 n).wf = true) : isI64 n := by
  have hmin : IntKind.i64.min = -9223372036854775808 := by decide
  have hmax : IntKind.i64.max = 9223372036854775807 := by decide
  simp [Lit.wf, hmin, hmax] at h
  exact h

theorem cellsTok : Try.prog.cellsOf 58 = 3 := by kernel_rfl
theorem cellsInt1 : Try.prog.cellsOf 3 = 1 := by kernel_rfl
theorem cellsStr1 : Try.prog.cellsOf 9 = 1 := by kernel_rfl

theorem tok_of_trod {H : Type} {enc : TypeId × Value → H} {W : World} {base n : Nat} {sp : Nat → Bool} {hd : Bool} {cs : List Value} {x : DataW H × List MemPlace}
    (h : DataW.trod enc Try.prog W base sp hd n 58 cs = some x) : ∃ t : Tk, cs = [.int .i64 t.kind, .string t.text, .int .i64 t.at_] ∧ isI64 t.kind ∧ t.text.size ≤ maxLen ∧ isI64 t.at_ := by
  obtain ⟨ys, m, _, _, hl, hyl, hf⟩ := DataW.trod_struct Try.underlying58 h
  rw [cellsTok] at hl
  match cs, hl with
  | [c0, c1, c2], _ =>
    have hs : ys.length = 3 := hyl
    match ys, hs with
    | [y0, y1, y2], _ =>
      have f0 : DataW.trod enc Try.prog W base sp hd m 3 (([c0, c1, c2].drop 0).take (Try.prog.cellsOf 3)) = some y0 := hf 0 _ rfl
      have f1 : DataW.trod enc Try.prog W base sp hd m 9 (([c0, c1, c2].drop 1).take (Try.prog.cellsOf 9)) = some y1 := hf 1 _ rfl
      have f2 : DataW.trod enc Try.prog W base sp hd m 3 (([c0, c1, c2].drop 2).take (Try.prog.cellsOf 3)) = some y2 := hf 2 _ rfl
      rw [cellsInt1] at f0 f2
      rw [cellsStr1] at f1
      obtain ⟨k, e0, _, w0⟩ := DataW.trod_int Try.underlying3 f0
      obtain ⟨s, e1, _, w1⟩ := DataW.trod_string Try.underlying9 f1
      obtain ⟨p, e2, _, w2⟩ := DataW.trod_int Try.underlying3 f2
      simp at e0 e1 e2
      subst e0 e1 e2
      exact ⟨⟨k, s, p⟩, rfl, isI64_of w0, w1, isI64_of w2⟩

theorem Toks_of_trod {H : Type} {enc : TypeId × Value → H} {W : World} {base : Nat} {a : Option Addr} {l c : Nat} {d : DataW H} {p : List MemPlace}
    (h : DataW.Trod enc Try.prog W base (fun _ => true) true 32 (.slice a l c) d p) : ∃ xs : List Tk, l = xs.length ∧ Toks W a c xs := by
  obtain ⟨fuel, hf⟩ := h
  rcases Go.Deep.open_slice Try.underlying32 hf with ⟨hcs, _⟩ | ⟨x, l', c', m, n, D, Pl, hcs, _, hl, hm, hmm, _, hi⟩
  · simp [Value.cells] at hcs
    obtain ⟨rfl, rfl, rfl⟩ := hcs
    exact ⟨[], rfl, by simp, by unfold maxLen; omega, by simp, fun _ => rfl, fun h => by simp at h⟩
  · simp [Value.cells] at hcs
    obtain ⟨rfl, rfl, rfl⟩ := hcs
    have hm' : m = c := by simpa using hmm
    subst hm'
    rw [cellsTok] at hi
    have hpick : ∀ i, i < l → ∃ t : Tk, (W.cell? (x.add (i * 3 + 0)) = some (.int .i64 t.kind) ∧ W.cell? (x.add (i * 3 + 1)) = some (.string t.text) ∧ W.cell? (x.add (i * 3 + 2)) = some (.int .i64 t.at_)) ∧ isI64 t.kind ∧ t.text.size ≤ maxLen ∧ isI64 t.at_ := by
      intro i hil
      obtain ⟨cs', hc, ht⟩ := hi i (by omega)
      obtain ⟨t, rfl, h0, h1, h2⟩ := tok_of_trod ht
      obtain ⟨_, _, hat⟩ := World.cells?_some hc
      refine ⟨t, ⟨?_, ?_, ?_⟩, h0, h1, h2⟩
      · rw [← Go.Deep.add_add]; exact hat 0 (by omega)
      · rw [← Go.Deep.add_add]; exact hat 1 (by omega)
      · rw [← Go.Deep.add_add]; exact hat 2 (by omega)
    have hall : ∃ ts : List Tk, ts.length = l ∧ ∀ (i : Nat) (h : i < ts.length), (W.cell? (x.add (i * 3 + 0)) = some (.int .i64 ts[i].kind) ∧ W.cell? (x.add (i * 3 + 1)) = some (.string ts[i].text) ∧ W.cell? (x.add (i * 3 + 2)) = some (.int .i64 ts[i].at_)) ∧ isI64 ts[i].kind ∧ ts[i].text.size ≤ maxLen ∧ isI64 ts[i].at_ := by
      clear hi hf hmm
      suffices H : ∀ q, q ≤ l → ∃ ts : List Tk, ts.length = q ∧ ∀ (i : Nat) (h : i < ts.length), (W.cell? (x.add (i * 3 + 0)) = some (.int .i64 ts[i].kind) ∧ W.cell? (x.add (i * 3 + 1)) = some (.string ts[i].text) ∧ W.cell? (x.add (i * 3 + 2)) = some (.int .i64 ts[i].at_)) ∧ isI64 ts[i].kind ∧ ts[i].text.size ≤ maxLen ∧ isI64 ts[i].at_ from H l (Nat.le_refl _)
      intro q
      induction q with
      | zero => exact fun _ => ⟨[], rfl, fun i h => by simp at h⟩
      | succ q ih =>
        intro hq
        obtain ⟨ts, hts, hc⟩ := ih (by omega)
        obtain ⟨t, ht⟩ := hpick q (by omega)
        refine ⟨ts ++ [t], by simp [hts], fun i h => ?_⟩
        by_cases hiq : i < ts.length
        · rw [List.getElem_append_left hiq]; exact hc i hiq
        · have : i = q := by simp at h; omega
          subst this
          rw [List.getElem_append_right (by omega)]
          simpa using ht
    obtain ⟨ts, rfl, hts⟩ := hall
    refine ⟨ts, rfl, by omega, hm, fun t ht => ?_, (fun h => by cases h), fun hp => ?_⟩
    · obtain ⟨i, hi', rfl⟩ := List.mem_iff_getElem.1 ht
      exact (hts i hi').2
    · obtain ⟨b, off, spot⟩ := x
      have h0 := (hts 0 hp).1.1
      have hspot : spot = none := by simpa [Addr.add] using World.cell?_spot h0
      subst hspot
      have hadd : ∀ j, (⟨b, off, none⟩ : Addr).add j = ⟨b, off + j, none⟩ := fun j => by unfold Addr.add; by_cases h0 : j = 0 <;> simp [h0]
      refine ⟨b, off, rfl, ?_, fun i hi' => ?_⟩
      · have hb : W.cell? ⟨b, off, none⟩ = some (.int .i64 ts[0].kind) := by simpa [Addr.add] using h0
        rcases Nat.lt_or_ge b W.heap.size with hlt | hge
        · exact hlt
        · simp [World.cell?, Array.getElem?_eq_none hge] at hb
      · obtain ⟨⟨c0, c1, c2⟩, _⟩ := hts i hi'
        rw [hadd] at c0 c1 c2
        exact ⟨c0, c1, c2⟩

end Go.Proofs.Ytjnanlfahgjcbaa
