/- The program's lexer: quoted texts. -/
import Derived.Test.YtjnanlfahgjcbaaDoorLexImpl5
import Derived.Test.YtjnanlfahgjcbaaDoorBuilder
namespace Go.Proofs.YtjnanlfahgjcbaaDoor
open Go.RowKit

def QAns (w : World) (g : Nat) (s : ByteArray) (k : Nat) (y : UInt8) (e : Ending) (w' : World) : Prop :=
  (∃ x, quoted y (s.data.toList.drop (k + 1)) = some x ∧ e = .returned (.tuple #[.string ⟨x.1.toArray⟩, .bool true]) ∧ Moved w g s (k + 1 + x.2) w') ∨
  (quoted y (s.data.toList.drop (k + 1)) = none ∧ e = .returned (.tuple #[.string ⟨#[]⟩, .bool false]) ∧ Moved w g s s.size w')

theorem LexS.wrote {w w' : World} {g : Nat} {s : ByteArray} {k : Nat} (h : LexS w g s k) {b : Nat} {a : Option Addr} {c : Nat} {l : List UInt8} (hB : Bld w b a c l) (hg : g < b) (hw : Wrote b (Value.slice a l.length c).ownBlock w w') : LexS w' g s k := by
  obtain ⟨cs, hc, r⟩ := h.ex
  exact ⟨cs, (hw.block g (heap_lt hc) (by omega) (fun e => by have := (hB.own.lt e.symm).1; omega)).trans hc, r⟩

/-- Of what lay below b, block g alone has turned. -/
def Only (w : World) (b g : Nat) (w' : World) : Prop := w'.os = w.os ∧ w'.tape = w.tape ∧ w'.output = w.output ∧ b ≤ w'.heap.size ∧ ∀ k, k < b → k ≠ g → w'.heap[k]? = w.heap[k]?

theorem Only.wrote {w w1 w2 : World} {b g : Nat} (h : Only w b g w1) {a : Option Addr} {c : Nat} {l : List UInt8} (hB : Bld w1 b a c l) (hw : Wrote b (Value.slice a l.length c).ownBlock w1 w2) : Only w b g w2 := by
  obtain ⟨h1, h2, h3, h4, h5⟩ := h
  have hlt := hB.lt
  exact ⟨hw.os.trans h1, hw.tape.trans h2, hw.output.trans h3, Nat.le_trans h4 hw.size, fun k hk hne => (hw.block k (by omega) (by omega) (fun e => by have := (hB.own.lt e.symm).1; omega)).trans (h5 k hk hne)⟩
theorem Only.set {w w1 : World} {b g : Nat} (h : Only w b g w1) (v : Value) : Only w b g (w1.setCell ⟨g, 1, none⟩ v) := by
  obtain ⟨h1, h2, h3, h4, h5⟩ := h
  exact ⟨h1, h2, h3, by simpa [World.setCell] using h4, fun k hk hne => (Below.heap_setCell _ _ _ _ hne).trans (h5 k hk hne)⟩
theorem Only.below {w w1 w2 : World} {b g : Nat} (h : Only w b g w1) (hb : Below b w1 w2) : Only w b g w2 := by
  obtain ⟨h1, h2, h3, h4, h5⟩ := h
  exact ⟨hb.os.trans h1, hb.tape.trans h2, hb.output.trans h3, Nat.le_trans h4 hb.size, fun k hk hne => (hb.block k hk).trans (h5 k hk hne)⟩
theorem Only.moved {w w1 : World} {g : Nat} (h : Only w w.heap.size g w1) {s : ByteArray} {m : Nat} (hl : LexS w1 g s m) : Moved w g s m w1 := by
  obtain ⟨h1, h2, h3, h4, h5⟩ := h
  exact ⟨hl, h1, h2, h3, h4, fun k hk hne => h5 k hk (fun e => hne (by rw [e]))⟩
theorem Bld.set {w : World} {b g : Nat} {a : Option Addr} {c : Nat} {l : List UInt8} (h : Bld w b a c l) (hg : g < b) (v : Value) : Bld (w.setCell ⟨g, 1, none⟩ v) b a c l :=
  h.grown (setGrown w g v) (fun e => by cases e; omega) (fun x hx e => by cases e; have := (h.own.lt hx).1; omega)

theorem qsome {o : Option (List UInt8 × Nat)} {l : List UInt8} {m k : Nat} (h : o = qShift l (m - (k + 1)) (some ([], 1))) : o = some (l, m - (k + 1) + 1) := by rw [h]; simp [qShift]

set_option maxRecDepth 100000 in
set_option maxHeartbeats 4000000 in
theorem implQuoted {w : World} {g : Nat} {s : ByteArray} {k : Nat} (h : LexS w g s k) (y : UInt8) (hs : s.size ≤ 1048576) (hk : k < s.size) :
    Calls Tryd.prog 44 #[.pointer (some ⟨g, 0, none⟩), .int .u8 (y.toNat : Int)] w (QAns w g s k y) := by
  have hy := byte_le y
  have hlt := h.lt
  have c1 := h.c1
  have f1 := h.f1
  have hsz : (w.setCell ⟨g, 1, none⟩ (.int .i64 ((k : Int) + 1))).heap.size = w.heap.size := by simp [World.setCell]
  have hL0 : LexS (w.setCell ⟨g, 1, none⟩ (.int .i64 ((k : Int) + 1))) g s (k + 1) := by have := h.set (k + 1); simpa using this
  have ha := (Below.refl (w.setCell ⟨g, 1, none⟩ (.int .i64 ((k : Int) + 1))).heap.size (w.setCell ⟨g, 1, none⟩ (.int .i64 ((k : Int) + 1)))).alloc (Nat.le_refl _) (.cells #[.pointer none, .slice none 0 0] 61)
  have HL := Lib.hid (hL0.below ha hL0.lt)
  have HB : Hid (Bld ((w.setCell ⟨g, 1, none⟩ (.int .i64 ((k : Int) + 1))).alloc (.cells #[.pointer none, .slice none 0 0] 61)) w.heap.size none 0 []) := by
    have := Bld.new (w.setCell ⟨g, 1, none⟩ (.int .i64 ((k : Int) + 1)))
    rw [hsz] at this
    exact this
  have HO : Hid (Only w w.heap.size g ((w.setCell ⟨g, 1, none⟩ (.int .i64 ((k : Int) + 1))).alloc (.cells #[.pointer none, .slice none 0 0] 61))) :=
    Only.below (Only.set ⟨rfl, rfl, rfl, Nat.le_refl _, fun j _ _ => rfl⟩ _) (hsz ▸ ha)
  clear hL0 h ha hsz
  go_enter Tryd.func44, Tryd.ntmps44
  go_wp2_with fail
  go_loopg [] (s.size - (k + 1)) (fun gk wr => ∃ (m : Nat) (a : Option Addr) (c : Nat) (l : List UInt8), gk = s.size - m ∧ k + 1 ≤ m ∧ m ≤ s.size ∧ l.length ≤ m ∧ LexS wr g s m ∧ Bld wr w.heap.size a c l ∧ Only w w.heap.size g wr ∧ Hid (quoted y (s.data.toList.drop (k + 1)) = qShift l (m - (k + 1)) (quoted y (s.data.toList.drop m))))
  case atStart =>
    refine ⟨k + 1, none, 0, [], rfl, Nat.le_refl _, hk, Nat.zero_le _, HL.out, HB.out, HO.out, ?_⟩
    unfold Hid
    rw [Nat.sub_self]
    cases quoted y (s.data.toList.drop (k + 1)) <;> simp [qShift]
  case round =>
    obtain ⟨m, a, c, l, rfl, hkm, hm, hll, hL, hB, hO, hq⟩ := hrel
    have h0m : (0 : Int) ≤ (m : Int) := by omega
    by_cases hlm : m < s.size
    · have hby := byte_le s[m]
      have hlm' : (m : Int) < (s.size : Int) := by omega
      have HMO : Hid (decide (m < s.size) = true) := decide_eq_true hlm
      have HLr := Lib.hid hL
      clear hL
      go_wp2_with fail
      refine (implMore HLr.out hs (by omega) true HMO.out).mono ?_
      rintro e w1 ⟨rfl, n1, hw1⟩
      have hL1 : LexS w1 g s m := hw1 ▸ HLr.out.drewN n1
      have hb1 : Below wr.heap.size wr w1 := hw1 ▸ below_drewN (Below.refl _ _) n1
      have hB1 := hB.below hb1
      have hO1 := hO.below (hb1.mono hO.2.2.2.1)
      have c0 := hL1.c0
      have c1 := hL1.c1
      have f1 := hL1.f1
      have HL1 := Lib.hid hL1
      clear hw1 hb1 hB hO HLr hL1
      by_cases he : s[m] = y
      · have T1 := byte_eq he
        have HE := Lib.hid he
        clear he
        go_wp2_with fail
        go_quiet (fail)
        go_wp2_with fail
        have hL2 : LexS ((w1.drewN nq).setCell ⟨g, 1, none⟩ (.int .i64 ((m : Int) + 1))) g s (m + 1) := by have := (HL1.out.drewN nq).set (m + 1); simpa using this
        have hB2 : Bld ((w1.drewN nq).setCell ⟨g, 1, none⟩ (.int .i64 ((m : Int) + 1))) w.heap.size a c l := (hB1.below (below_drewN (Below.refl _ _) nq)).set hlt _
        have hO2 : Only w w.heap.size g ((w1.drewN nq).setCell ⟨g, 1, none⟩ (.int .i64 ((m : Int) + 1))) := (hO1.below (below_drewN (Below.refl w.heap.size w1) nq)).set _
        generalize (w1.drewN nq).setCell ⟨g, 1, none⟩ (.int .i64 ((m : Int) + 1)) = W2 at *
        have d0 := hL2.c0
        have d1 := hL2.c1
        have e1 := hL2.f1
        have HL2 := Lib.hid hL2
        have HB2 := Lib.hid hB2
        have HO2 := Lib.hid hO2
        clear hL2 hB2 hO2 hB1 hO1 c0 c1 f1 HL1
        simp only [Int.natCast_add, Int.cast_ofNat_Int] at d1
        have h0m1 : (0 : Int) ≤ (m : Int) + 1 := by omega
        have htn : ((m : Int) + 1).toNat = m + 1 := by omega
        by_cases h1 : m + 1 < s.size
        · have hby1 := byte_le s[m + 1]
          have h1' : (m : Int) + 1 < (s.size : Int) := by omega
          have HM1 : Hid (decide (m + 1 < s.size) = true) := decide_eq_true h1
          by_cases hc : s[m + 1] = y
          · have T2 := byte_bneF hc
            have HQ := Lib.hid (quoted_two_at s y m hlm HE.out h1 hc)
            clear hc
            go_quiet ((go_at_call 26; exact Calls.quiet_of (implMore (HL2.out.drewN _) hs (by omega) true HM1.out)))
            go_wp2_with fail
            refine (writeByte w.heap.size a c l s[m] _ (HB2.out.below (below_drewN (Below.refl _ _) _)) (by omega)).mono ?_
            rintro e w3 ⟨rfl, a3, c3, l3, hl3, hB3, hW3, _⟩
            have hL3 := (HL2.out.drewN _).wrote (HB2.out.below (below_drewN (Below.refl _ _) _)) hlt hW3
            have hO3 := (HO2.out.below (below_drewN (Below.refl w.heap.size _) _)).wrote (HB2.out.below (below_drewN (Below.refl _ _) _)) hW3
            have c13 := hL3.c1
            have f13 := hL3.f1
            have hL4 : LexS (w3.setCell ⟨g, 1, none⟩ (.int .i64 (((m : Int) + 1) + 1))) g s (m + 2) := by have := hL3.set (m + 2); simpa [Int.add_assoc] using this
            have HL4 := Lib.hid hL4
            have HB4 := Lib.hid (hB3.set hlt (.int .i64 (((m : Int) + 1) + 1)))
            have HO4 := Lib.hid (hO3.set (.int .i64 (((m : Int) + 1) + 1)))
            clear hL3 hO3 hL4 hW3
            go_wp2_with fail
            go_roundg (s.size - (m + 2))
            case measure => omega
            case rel => exact ⟨m + 2, a3, c3, l3, rfl, by omega, by omega, by rw [hid_len hl3]; omega, HL4.out, HB4.out, HO4.out, by unfold Hid; rw [hq.out, HQ.out, qShift_shift, hl3.out, show m + 2 - (k + 1) = m - (k + 1) + 2 by omega]⟩
          · have T2 := byte_bneT hc
            have HQ := Lib.hid (quoted_end_at s y m hlm HE.out (.inr ⟨h1, hc⟩))
            clear hc
            go_quiet ((go_at_call 26; exact Calls.quiet_of (implMore (HL2.out.drewN _) hs (by omega) true HM1.out)))
            go_wp2_with fail
            refine (builderString w.heap.size a c l _ (HB2.out.below (below_drewN (Below.refl _ _) _))).mono ?_
            rintro e w4 ⟨rfl, hb4⟩
            have hQ := qsome (hq.out.trans (by rw [HQ.out]))
            go_wp2_with fail
            go_ret2
            refine .inl ⟨_, hQ, rfl, ?_⟩
            have hL4 := (HL2.out.drewN _).below hb4 hlt
            have hO4 := (HO2.out.below (below_drewN (Below.refl w.heap.size _) _)).below hb4
            show Moved w g s (k + 1 + (m - (k + 1) + 1)) _
            rw [show k + 1 + (m - (k + 1) + 1) = m + 1 by omega]
            exact hO4.moved hL4
        · have HM1 : Hid (decide (m + 1 < s.size) = false) := decide_eq_false h1
          have HQ := Lib.hid (quoted_end_at s y m hlm HE.out (.inl (by omega)))
          go_quiet ((go_at_call 26; exact Calls.quiet_of (implMore (HL2.out.drewN _) hs (by omega) false HM1.out)))
          go_wp2_with fail
          refine (builderString w.heap.size a c l _ (HB2.out.below (below_drewN (Below.refl _ _) _))).mono ?_
          rintro e w4 ⟨rfl, hb4⟩
          have hQ := qsome (hq.out.trans (by rw [HQ.out]))
          go_wp2_with fail
          go_ret2
          refine .inl ⟨_, hQ, rfl, ?_⟩
          have hL4 := (HL2.out.drewN _).below hb4 hlt
          have hO4 := (HO2.out.below (below_drewN (Below.refl w.heap.size _) _)).below hb4
          show Moved w g s (k + 1 + (m - (k + 1) + 1)) _
          rw [show k + 1 + (m - (k + 1) + 1) = m + 1 by omega]
          exact hO4.moved hL4
      · have T1 := byte_ne he
        have HQ := Lib.hid (quoted_ne_at s y m hlm he)
        clear he
        go_wp2_with fail
        go_quiet (fail)
        go_wp2_with fail
        refine (writeByte w.heap.size a c l s[m] _ (hB1.below (below_drewN (Below.refl _ _) _)) (by omega)).mono ?_
        rintro e w3 ⟨rfl, a3, c3, l3, hl3, hB3, hW3, _⟩
        have hL3 := (HL1.out.drewN _).wrote (hB1.below (below_drewN (Below.refl _ _) _)) hlt hW3
        have hO3 := (hO1.below (below_drewN (Below.refl w.heap.size _) _)).wrote (hB1.below (below_drewN (Below.refl _ _) _)) hW3
        have c13 := hL3.c1
        have f13 := hL3.f1
        have hL4 : LexS (w3.setCell ⟨g, 1, none⟩ (.int .i64 ((m : Int) + 1))) g s (m + 1) := by have := hL3.set (m + 1); simpa [Int.add_assoc] using this
        have HL4 := Lib.hid hL4
        have HB4 := Lib.hid (hB3.set hlt (.int .i64 ((m : Int) + 1)))
        have HO4 := Lib.hid (hO3.set (.int .i64 ((m : Int) + 1)))
        clear hL3 hO3 hL4 hW3
        go_wp2_with fail
        go_roundg (s.size - (m + 1))
        case measure => omega
        case rel => exact ⟨m + 1, a3, c3, l3, rfl, by omega, by omega, by rw [hid_len hl3]; omega, HL4.out, HB4.out, HO4.out, by unfold Hid; rw [hq.out, HQ.out, qShift_shift, hl3.out, show m + 1 - (k + 1) = m - (k + 1) + 1 by omega]⟩
    · have HMO : Hid (decide (m < s.size) = false) := decide_eq_false hlm
      have hme : m = s.size := by omega
      have HQ : Hid (quoted y (s.data.toList.drop (k + 1)) = none) := by
        unfold Hid
        rw [hq.out, hme, quoted_none_at]
        rfl
      subst hme
      go_wp2_with fail
      refine (implMore hL hs (by omega) false HMO.out).mono ?_
      rintro e w1 ⟨rfl, n1, rfl⟩
      go_wp2_with fail
      go_ret2
      exact .inr ⟨HQ.out, rfl, (hO.moved hL).drewN n1⟩

end Go.Proofs.YtjnanlfahgjcbaaDoor
