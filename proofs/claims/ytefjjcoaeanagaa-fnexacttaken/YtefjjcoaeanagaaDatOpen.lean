/- How lists of structures among a law's arguments are opened. -/
import Derived.Test.YtefjjcoaeanagaaDat
import Derived.Test.YtefjjcoaeanagaaOpenExpr
namespace Go.Proofs.Ytefjjcoaeanagaa
open Go.ChangeShapes Go.WideShapes Go.ChangeAt Go.RowKit

set_option maxRecDepth 100000 in
theorem sl_of_trod_le {H : Type} {enc : TypeId × Value → H} {W : World} {X : Type} {K N : Nat} {R : Rd X} {T TE : TypeId} (hT : Try.prog.underlying T = some (.slice TE)) (hK : Try.prog.cellsOf TE = K) (hK0 : 0 < K)
    (hlen : ∀ {cs : List Value} {e : X}, R 0 W cs e → cs.length = K)
    (hE : ∀ (fuel : Nat), fuel ≤ N → ∀ (cs : List Value) (x : DataW H × List MemPlace), DataW.trod enc Try.prog W 0 (fun _ => true) true fuel TE cs = some x → ∃ e : X, R 0 W cs e)
    {cs : List Value} {x : DataW H × List MemPlace} (h : DataW.trod enc Try.prog W 0 (fun _ => true) true N T cs = some x) :
    ∃ (a : Option Addr) (c : Nat) (xs : List X), cs = [.slice a xs.length c] ∧ Sl K R 0 W a c xs := by
  rcases DataW.trod_slice hT h with ⟨hcs, _⟩ | ⟨q, len, cap, elems, rest, m, hm, hcs, _, _, hlc, hcap, hlen', hel, _, _⟩
  · exact ⟨none, 0, [], hcs, Sl.nil _ _ _ _⟩
  · subst hcs
    have hpick : ∀ i, i < len → ∃ (e : X) (vs : List Value), (∀ (j : Nat) (hj : j < vs.length), W.cell? (q.add (i * K + j)) = some vs[j]) ∧ R 0 W vs e := by
      intro i hi
      have hh := hel i hi
      rw [hK, List.getElem?_eq_getElem (by omega)] at hh
      obtain ⟨cs', hc, ht⟩ := Option.bind_eq_some_iff.1 hh
      obtain ⟨e, hR⟩ := hE m (by omega) cs' _ ht
      obtain ⟨_, _, hat⟩ := World.cells?_some hc
      refine ⟨e, cs', fun j hj => ?_, hR⟩
      rw [← Go.Deep.add_add, hat j (by rw [← hlen hR]; exact hj), List.getElem?_eq_getElem hj]
    have hall : ∃ es : List X, es.length = len ∧ ∀ (i : Nat) (h : i < es.length), ∃ vs : List Value, (∀ (j : Nat) (hj : j < vs.length), W.cell? (q.add (i * K + j)) = some vs[j]) ∧ R 0 W vs es[i] := by
      suffices HH : ∀ z, z ≤ len → ∃ es : List X, es.length = z ∧ ∀ (i : Nat) (h : i < es.length), ∃ vs : List Value, (∀ (j : Nat) (hj : j < vs.length), W.cell? (q.add (i * K + j)) = some vs[j]) ∧ R 0 W vs es[i] from HH len (Nat.le_refl _)
      intro z
      induction z with
      | zero => exact fun _ => ⟨[], rfl, fun i h => by simp at h⟩
      | succ z ihz =>
        intro hz
        obtain ⟨es, hes, hc⟩ := ihz (by omega)
        obtain ⟨e, vs, he⟩ := hpick z (by omega)
        refine ⟨es ++ [e], by simp [hes], fun i h => ?_⟩
        by_cases hiz : i < es.length
        · rw [List.getElem_append_left hiz]; exact hc i hiz
        · have : i = z := by simp at h; omega
          subst this
          refine ⟨vs, he.1, ?_⟩
          rw [List.getElem_append_right (by omega)]
          simpa [hes] using he.2
    obtain ⟨es, hesl, hes⟩ := hall
    subst hesl
    refine ⟨some q, cap, es, rfl, hlc, hcap, (fun h => by cases h), fun hp => ?_⟩
    obtain ⟨b, off, spot⟩ := q
    obtain ⟨vs0, h0, hR0⟩ := hes 0 hp
    have hv0 : 0 < vs0.length := by rw [hlen hR0]; exact hK0
    have h00 := h0 0 hv0
    have hspot : spot = none := by simpa [Addr.add] using World.cell?_spot h00
    subst hspot
    have hadd : ∀ j, (⟨b, off, none⟩ : Addr).add j = ⟨b, off + j, none⟩ := fun j => by unfold Addr.add; by_cases h0 : j = 0 <;> simp [h0]
    refine ⟨b, off, rfl, Nat.zero_le _, ?_, fun i hi' => ?_⟩
    · rw [hadd] at h00
      rcases Nat.lt_or_ge b W.heap.size with hlt | hge
      · exact hlt
      · simp [World.cell?, Array.getElem?_eq_none hge] at h00
    · obtain ⟨vs, h1, h2⟩ := hes i hi'
      refine ⟨vs, fun j hj => ?_, h2⟩
      rw [← h1 j hj, hadd]
      congr 2
      omega

theorem sl_of_trod {H : Type} {enc : TypeId × Value → H} {W : World} {X : Type} {K : Nat} {R : Rd X} {T TE : TypeId} (hT : Try.prog.underlying T = some (.slice TE)) (hK : Try.prog.cellsOf TE = K) (hK0 : 0 < K)
    (hlen : ∀ {cs : List Value} {e : X}, R 0 W cs e → cs.length = K)
    (hE : ∀ (fuel : Nat) (cs : List Value) (x : DataW H × List MemPlace), DataW.trod enc Try.prog W 0 (fun _ => true) true fuel TE cs = some x → ∃ e : X, R 0 W cs e)
    {fuel : Nat} {cs : List Value} {x : DataW H × List MemPlace} (h : DataW.trod enc Try.prog W 0 (fun _ => true) true fuel T cs = some x) :
    ∃ (a : Option Addr) (c : Nat) (xs : List X), cs = [.slice a xs.length c] ∧ Sl K R 0 W a c xs :=
  sl_of_trod_le hT hK hK0 hlen (fun f _ => hE f) h

/-- One text in one cell. -/
def RStr : Rd ByteArray := fun _ _ vs s => vs = [.string s] ∧ s.size ≤ maxLen

set_option maxRecDepth 100000 in
theorem ss_of_trod {H : Type} {enc : TypeId × Value → H} {W : World} {fuel : Nat} {cs : List Value} {x : DataW H × List MemPlace} (h : DataW.trod enc Try.prog W 0 (fun _ => true) true fuel 65 cs = some x) :
    ∃ (a : Option Addr) (c : Nat) (xs : List ByteArray), cs = [.slice a xs.length c] ∧ Ss 0 W a c xs := by
  obtain ⟨a, c, xs, rfl, h1, h2, h3, h4⟩ := sl_of_trod (R := RStr) (K := 1) Try.underlying65 (by kernel_rfl) (by omega) (fun h => by rw [h.1]; rfl)
    (fun fuel cs x h => by obtain ⟨s, e1, _, w1⟩ := DataW.trod_string Try.underlying9 h; exact ⟨s, e1, w1⟩) h
  refine ⟨a, c, xs, rfl, Strs.ss0 ⟨h1, h2, fun s hs => ?_, h3, fun hp => ?_⟩⟩
  · obtain ⟨i, hi, rfl⟩ := List.mem_iff_getElem.1 hs
    obtain ⟨b, off, _, _, _, hc⟩ := h4 (by omega)
    obtain ⟨_, _, hR⟩ := hc i hi
    exact hR.2
  · obtain ⟨b, off, ha, _, hb, hc⟩ := h4 hp
    refine ⟨b, off, ha, hb, fun i hi => ?_⟩
    obtain ⟨vs, hv, hR⟩ := hc i hi
    obtain ⟨rfl, _⟩ := hR
    have := hv 0 (by simp)
    simpa using this

/-- One expression in four cells. -/
def RX (d : Nat) : Rd Ex := fun lo w vs e => ∃ a c, vs = [.int .i64 e.kind, .string e.text, .int .i64 e.num, .slice a e.kids.length c] ∧ e.fit ∧ KidsB lo w d a c e.kids

theorem Sl.kidsB {lo d : Nat} {w : World} {a : Option Addr} {c : Nat} {kids : List Ex} (h : Sl 4 (RX d) lo w a c kids) : KidsB lo w (d + 1) a c kids := by
  obtain ⟨h1, h2, h3, h4⟩ := h
  refine ⟨h1, h2, h3, fun hp => ?_⟩
  obtain ⟨b, off, ha, hl, hb, hc⟩ := h4 hp
  refine ⟨b, off, ha, hl, hb, fun i hi => ?_⟩
  obtain ⟨vs, hv, hR⟩ := hc i hi
  obtain ⟨a', c', rfl, hfit, hk⟩ := hR
  exact ⟨hv 0 (by simp), hv 1 (by simp), hv 2 (by simp), hfit, a', c', hv 3 (by simp), hk⟩

set_option maxRecDepth 100000 in
theorem ks_of_trod {H : Type} {enc : TypeId × Value → H} {W : World} {fuel : Nat} {cs : List Value} {x : DataW H × List MemPlace} (h : DataW.trod enc Try.prog W 0 (fun _ => true) true fuel 143 cs = some x) :
    ∃ (a : Option Addr) (c : Nat) (xs : List Ex), cs = [.slice a xs.length c] ∧ Ks 0 W a c xs := by
  obtain ⟨a, c, xs, he, hs⟩ := sl_of_trod_le (R := RX fuel) (K := 4) (N := fuel) Try.underlying143 (by kernel_rfl) (by omega) (fun h => by obtain ⟨_, _, rfl, _⟩ := h; rfl)
    (fun f hf cs x h => by obtain ⟨e, a, c, rfl, hfit, hk⟩ := ex_of_trod f cs x h; exact ⟨e, a, c, rfl, hfit, (hk.mono hf).b0⟩) h
  exact ⟨a, c, xs, he, fuel, hs.kidsB⟩

end Go.Proofs.Ytefjjcoaeanagaa
