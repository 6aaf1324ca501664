/- The walk of FnType. -/
import Derived.Test.YtjjdcdnaonfnmaaGreatDoorMLawTypeP
import Derived.Test.YtjjdcdnaonfnmaaGreatDoorMTypeTextI
import Derived.Test.YtjjdcdnaonfnmaaGreatDoorMDrawTypeB
import Derived.Test.YtjjdcdnaonfnmaaGreatDoorMLawBase
import Derived.Test.YtjjdcdnaonfnmaaGreatDoorMLexImpl8
namespace Go.Proofs.YtjjdcdnaonfnmaaGreatDoor
open Go.ChangeShapes Go.WideShapes Go.ChangeAt Go.RowKit

theorem wfI64 {k : Int} (h0 : -10 ≤ k) (h1 : k ≤ 10) : (Lit.int .i64 k).wf = true := by
  unfold Lit.wf
  rw [Bool.and_eq_true, decide_eq_true_eq, decide_eq_true_eq, show IntKind.i64.min = -9223372036854775808 by rfl, show IntKind.i64.max = 9223372036854775807 by rfl]
  omega

theorem typeW_small {k n : Int} {s : ByteArray} (hn : -1000 ≤ n ∧ n ≤ 1000) (hs : s.size ≤ 60) : ∀ q ∈ typeW k n s, q.2.length ≤ 100 := by
  have h1 : (Lib.itoa n).length ≤ 21 := dec_size n (by omega) (by omega)
  have h2 : s.data.toList.length = s.size := by simp
  intro q hq
  unfold typeW at hq
  split at hq
  · cases List.mem_singleton.1 hq; decide
  · split at hq
    · cases List.mem_singleton.1 hq; decide
    · split at hq
      · cases List.mem_singleton.1 hq; decide
      · split at hq
        · rcases List.mem_cons.1 hq with rfl | hq
          · decide
          rcases List.mem_cons.1 hq with rfl | hq
          · decide
          rcases List.mem_cons.1 hq with rfl | hq
          · simp only; omega
          cases List.mem_singleton.1 hq; decide
        · rcases List.mem_cons.1 hq with rfl | hq
          · decide
          cases List.mem_singleton.1 hq
          simp only; omega

theorem toks_small {ts : List Tok} {k n : Int} {s : ByteArray} (ht : kt ts = typeW k n s) (hn : -1000 ≤ n ∧ n ≤ 1000) (hs : s.size ≤ 60) : ∀ x ∈ ts.map tkOf, x.text.size ≤ 1048576 := by
  intro x hx
  obtain ⟨y, hy, rfl⟩ := List.mem_map.1 hx
  have hm : (y.kind, y.text) ∈ kt ts := List.mem_map.2 ⟨y, hy, rfl⟩
  rw [ht] at hm
  have := typeW_small hn hs _ hm
  have e : (tkOf y).text.size = y.text.length := List.size_toArray
  simp only at this
  omega

set_option maxRecDepth 100000 in
set_option maxHeartbeats 4000000 in
theorem walkFnType (a : Option Addr) (c : Nat) (l : List UInt8) (w : World) (hb : Bytes w a c l) (hL : laidMetH Tryz.prog Rows.fnTypeRow.laid w) :
    Calls Tryz.prog 3 #[.slice a l.length c] w fun e w' => e = .returned (.bool true) ∧ Below w.heap.size w w' := by
  by_cases hbig : 1048576 < l.length
  · clear hL
    go_enter Tryz.func3, Tryz.ntmps3
    go_wp2_with (go_at_call 4; refine (lawsBigYes _ _ _ _ hbig).mono ?_; rintro e w' ⟨rfl, rfl⟩)
    go_ret
    exact ⟨rfl, Below.refl _ _⟩
  · rw [MakeChecks.laidMetH_plain _ _ _ (by kernel_rfl)] at hL
    obtain ⟨p, hG, hw16⟩ := glob_of hL
    generalize 158 = tp at hG
    have HG : Hid (∀ W, Below w.heap.size w W → Glob tp p W) := fun W hB => hG.below hB hw16
    clear hG hL
    go_enter Tryz.func3, Tryz.ntmps3
    go_wp2_with (go_at_call 4; refine (lawsBigNo _ _ _ _ (by omega)).mono ?_; rintro e w' ⟨rfl, rfl⟩)
    refine (specDrawTypeText a c l _ hb (by omega)).mono ?_
    rintro e w1 ⟨k, n, s, rfl, ⟨hkb, hnb, hsb⟩, B1⟩
    have hss : s.size ≤ 1048576 := by omega
    have hk : (Lit.int .i64 k).wf = true := wfI64 (by omega) (by omega)
    obtain ⟨r, hr⟩ : ∃ r, typeTextT k n s = r := ⟨_, rfl⟩
    obtain ⟨v, hv⟩ : ∃ v, typeOkB k n s = v := ⟨_, rfl⟩
    have HR := Lib.hid hr
    have HV := Lib.hid hv
    have hrr : (r.toList != r.toList) = false := by simp
    have hvv : (v != v) = false := by simp
    have HL1 := Lib.hid (lay1_new w1 25 k n s)
    have HB1 := Lib.hid B1
    clear hr hv B1
    go_wp2_with fail
    have HTP : Hid (∀ W, Below w1.heap.size w1 W → ∀ W', Below W.heap.size W W' → Lib.TabIs Tryz.prog W' "internal/strconv.uint64pow10" .u64 Lib.pow10Tab) := fun W hW W' hW' => (HG.out W' ((HB1.out.trans (hW.mono HB1.out.size)).trans (hW'.mono (Nat.le_trans HB1.out.size hW.size)))).1
    generalize w1.alloc (.cells #[.int .i64 k, .int .i64 n, .string s] 25) = W1 at HL1 ⊢
    refine (implTypeTextW k n s W1 hss hk (HTP.out W1 HL1.out.2.2) r HR.out).mono ?_
    rintro e w2 ⟨rfl, b2⟩
    have HL2 := Lib.hid (HL1.out.below b2)
    clear b2 HL1
    have HLD := Lib.hid HL2.out.drew
    have hst : Hid (∀ a b : World, (a.cell? ⟨w1.heap.size, 0, none⟩ = some (.int .i64 k) ∧ a.cell? ⟨w1.heap.size, 1, none⟩ = some (.int .i64 n) ∧ a.cell? ⟨w1.heap.size, 2, none⟩ = some (.string s)) ∧ Hid (Lay1 w1 w1.heap.size k n s a) → Below a.heap.size a b → (b.cell? ⟨w1.heap.size, 0, none⟩ = some (.int .i64 k) ∧ b.cell? ⟨w1.heap.size, 1, none⟩ = some (.int .i64 n) ∧ b.cell? ⟨w1.heap.size, 2, none⟩ = some (.string s)) ∧ Hid (Lay1 w1 w1.heap.size k n s b)) := fun a b h hb => ⟨(h.2.out.below hb).1, h.2.out.below hb⟩
    obtain ⟨⟨d0, d1, d2⟩, _, _⟩ := HL2.out
    go_wp2_with fail
    go_region_held3 (fun w' => (w'.cell? ⟨w1.heap.size, 0, none⟩ = some (.int .i64 k) ∧ w'.cell? ⟨w1.heap.size, 1, none⟩ = some (.int .i64 n) ∧ w'.cell? ⟨w1.heap.size, 2, none⟩ = some (.string s)) ∧ Hid (Lay1 w1 w1.heap.size k n s w')) (first | assumption | exact ⟨HLD.out.1, HLD.out⟩)
      (first
        | (go_at_call 7; refine (specTypeText k n s _ hss r HR.out).mono ?_; rintro e wq ⟨rfl, bq⟩; have hq1 := hst.out _ _ (by assumption) bq; clear bq)
        | (go_at_call 8; refine (implTypeOk k n s _ hk v HV.out).mono ?_; rintro e wq2 ⟨rfl, bq⟩; have hq2 := hst.out _ _ (by assumption) bq; clear bq)
        | (go_at_call 9; refine (specTypeOk k n s _ hss v HV.out).mono ?_; rintro e wq3 ⟨rfl, bq⟩; have hq3 := hst.out _ _ (by assumption) bq; clear bq))
    have HLQ := Lib.hid hq3.2.out
    clear hst hrr hvv hq1 hq2 hq3 d0 d1 d2
    obtain ⟨⟨d0, d1, d2⟩, _, _⟩ := HLQ.out
    cases v with
    | false =>
      have hre : r = ⟨#[]⟩ := by have := HR.out; unfold typeTextT at this; rw [if_pos HV.out] at this; exact this.symm
      subst hre
      have hse : ((ByteArray.mk #[]).toList == (ByteArray.mk #[]).toList) = true := by simp
      go_wp2_with fail
      refine (specTypeOk k n s _ hss false HV.out).mono ?_
      rintro e w5 ⟨rfl, b5⟩
      have HL5 := Lib.hid (HLQ.out.below b5)
      clear b5
      go_wp2_with fail
      go_ret
      exact ⟨rfl, HB1.out.trans (HL5.out.2.2.mono HB1.out.size)⟩
    | true =>
      obtain ⟨hrz, ts, hlex, hkt⟩ := type_words HV.out
      rw [HR.out] at hlex hrz
      have hxs := toks_small hkt hnb hsb
      have hpt := type_back HV.out hkt
      have hfew := toks_few hlex
      have hrl : r.data.toList.length = r.size := by simp
      have hle : (ts.map tkOf).length ≤ 200 := by rw [List.length_map]; omega
      have hfit : FitsT (ts.map tkOf) := by have := (toks_fit r (by omega)).1; unfold toks at this; rw [hlex] at this; exact this
      have HLEX : Hid (∀ W, Below w.heap.size w W → Calls Tryz.prog 10 #[.string r] W fun e w' => ∃ a c, e = .returned (.tuple #[.slice a (ts.map tkOf).length c, .int .i64 (-1)]) ∧ OwnT w' W.heap.size a c (ts.map tkOf) ∧ Below W.heap.size W w') := fun W hB => (implLex r W (by omega) tp p (HG.out W hB) (Nat.le_trans hw16 hB.size)).mono fun _ _ => lexOk hlex rfl
      generalize ts.map tkOf = xs at *
      have hqe : ∀ w, (binOp .eql 25 (.agg #[.int .i64 k, .int .i64 n, .string s]) (.agg #[.int .i64 k, .int .i64 n, .string s])).run Tryz.prog w = .ok (.bool true) w := fun w => by rw [eqlTy, tyEq_refl]
      have hGG := fun x y w => guardTy x y k n s k n s w
      have HPT := Lib.hid hpt
      clear hlex hkt hfew hpt
      go_wp2_with fail
      refine (specTypeOk k n s _ hss true HV.out).mono ?_
      rintro e w5 ⟨rfl, b5⟩
      have HL5 := Lib.hid (HLQ.out.below b5)
      clear b5 d0 d1 d2
      go_wp2_with fail
      refine (HLEX.out w5 (HB1.out.trans (HL5.out.2.2.mono HB1.out.size))).mono ?_
      rintro e w6 ⟨a6, c6, rfl, own6, b6⟩
      have HL6 := Lib.hid (HL5.out.below b6)
      have HT6 := Lib.hid (own6.toks hfit)
      clear own6 b6
      obtain ⟨⟨d0, d1, d2⟩, _, _⟩ := HL6.out
      have HPC : Hid (Calls Tryz.prog 11 #[.slice a6 xs.length c6, .int .i64 0] w6 fun x w' => x = .returned (.tuple #[.agg #[.int .i64 k, .int .i64 n, .string s], .int .i64 (xs.length : Int)]) ∧ Below w6.heap.size w6 w') := by
        have hB6 := HB1.out.trans (HL6.out.2.2.mono HB1.out.size)
        have := implParseType a6 c6 xs 0 w6 HT6.out (by omega) hxs (by omega) tp p (HG.out w6 hB6) (Nat.le_trans hw16 hB6.size)
        rw [HPT.out] at this
        exact this
      go_wp2_with fail
      refine HPC.out.mono ?_
      rintro e w7 ⟨rfl, b7⟩
      have HL7 := Lib.hid ((HL6.out.below b7).alloc (.cells #[.int .i64 k, .int .i64 n, .string s] 25))
      have HN7 := Lib.hid (lay1_new w7 25 k n s)
      clear b7 d0 d1 d2
      obtain ⟨⟨d0, d1, d2⟩, _, _⟩ := HL7.out
      obtain ⟨⟨n0, n1, n2⟩, _, _⟩ := HN7.out
      go_wp2_with fail
      go_ret
      exact ⟨rfl, HB1.out.trans (HL7.out.2.2.mono HB1.out.size)⟩

end Go.Proofs.YtjjdcdnaonfnmaaGreatDoor
