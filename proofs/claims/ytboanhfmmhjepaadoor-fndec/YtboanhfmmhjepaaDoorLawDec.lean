/- For every bytes FnDec answers true: a drawn number comes back from its text, and drawn texts are read as spec.ReadDec reads them; the bytes read behind the call as before it. The condition of the card: strconv's and math/bits' tables and strconv's two errors start as the program's text lays them. -/
import Derived.Test.YtboanhfmmhjepaaDoorCards
import Derived.Test.YtboanhfmmhjepaaDoorTie
import Derived.Test.YtboanhfmmhjepaaDoorReadDec2
import Derived.Test.YtboanhfmmhjepaaDoorDrawDec
import Derived.Test.YtboanhfmmhjepaaDoorOpenBytes
import Derived.Test.YtboanhfmmhjepaaDoorLawBase
import Derived.Deep.DeepHandedRow
import Derived.Deep.DeepWitnessRowRef
namespace Go.Proofs.YtboanhfmmhjepaaDoor
open Go.ChangeShapes Go.WideShapes Go.ChangeAt Go.RowKit

theorem decFrom_snoc : ∀ (l : List UInt8) (acc n : Nat) (b : UInt8) (d : Nat), Lib.decFrom acc l = some n → Lib.digitVal b = some d → Lib.decFrom acc (l ++ [b]) = some (n * 10 + d)
  | [], acc, n, b, d, h, hd => by
    cases h
    simp [Lib.decFrom, hd]
  | x :: r, acc, n, b, d, h, hd => by
    rw [Lib.decFrom] at h
    rw [List.cons_append, Lib.decFrom]
    cases hv : Lib.digitVal x with
    | none => rw [hv] at h; cases h
    | some e => rw [hv] at h; exact decFrom_snoc r _ n b d h hd

theorem digit_of (d : Nat) (h : d < 10) : Lib.digitVal (UInt8.ofNat (48 + d)) = some d := by
  have h2 : (UInt8.ofNat (48 + d)).toNat = 48 + d := by rw [UInt8.toNat_ofNat']; omega
  unfold Lib.digitVal
  rw [h2, if_pos (by omega)]
  congr 1
  omega

theorem decFrom_digits (u : Nat) : Lib.decFrom 0 (Lib.decDigits u) = some u := by
  induction u using Nat.strongRecOn with
  | ind u ih =>
    by_cases h : u < 10
    · rw [Lib.decDigits_one h, Lib.decFrom, digit_of u h]
      simp [Lib.decFrom]
    · rw [Lib.decDigits, dif_neg h, decFrom_snoc _ _ _ _ _ (ih (u / 10) (by omega)) (digit_of (u % 10) (by omega))]
      congr 1
      omega

theorem decDigits_ne (u : Nat) : Lib.decDigits u ≠ [] := by
  obtain ⟨b, r, h, _⟩ := decDigits_first u
  rw [h]
  simp

theorem nDigits_le : ∀ (k u : Nat), 1 ≤ k → u < 10 ^ k → Lib.nDigits u ≤ k
  | 0, _, h, _ => by omega
  | k + 1, u, _, h => by
    by_cases hu : u < 10
    · rw [Lib.nDigits_small hu]; omega
    · rw [Lib.nDigits_big hu]
      rcases Nat.eq_zero_or_pos k with rfl | hk
      · simp at h; omega
      · have : u / 10 < 10 ^ k := by
          rw [Nat.pow_succ] at h
          exact Nat.div_lt_of_lt_mul (by rw [Nat.mul_comm]; exact h)
        have := nDigits_le k (u / 10) hk this
        omega

theorem readD_in (n : Int) (h0 : 0 ≤ n) (h1 : n ≤ 999999999) : readD (dec n).data.toList = n := by
  obtain ⟨m, rfl⟩ := Int.eq_ofNat_of_zero_le h0
  have hl : (Lib.decDigits m).length ≤ 9 := by
    rw [Lib.decDigits_length]
    exact nDigits_le 9 m (by omega) (by omega)
  have e : (dec (m : Int)).data.toList = Lib.decDigits m := by simp [dec, itoa_nat]
  rw [e, readD_end hl (decDigits_ne m) (decFrom_digits m), itoa_nat, if_pos rfl]

theorem readD_out (n : Int) (h : ¬ (0 ≤ n ∧ n ≤ 999999999)) : readD (dec n).data.toList = -1 := by
  by_cases hn : n < 0
  · have e : (dec n).data.toList = 45 :: Lib.decDigits n.natAbs := by simp [dec, Lib.itoa, hn]
    rw [e]
    unfold readD
    split
    · rfl
    · have : Lib.decNat (45 :: Lib.decDigits n.natAbs) = none := rfl
      rw [this]
  · obtain ⟨m, rfl⟩ := Int.eq_ofNat_of_zero_le (show 0 ≤ n by omega)
    have e : (dec (m : Int)).data.toList = Lib.decDigits m := by simp [dec, itoa_nat]
    rw [e]
    unfold readD
    rw [if_pos]
    rw [Lib.decDigits_length]
    rcases Nat.lt_or_ge 9 (Lib.nDigits m) with hlt | hge
    · exact hlt
    · have h1 := Lib.lt_pow_nDigits m
      have h2 : 10 ^ Lib.nDigits m ≤ 10 ^ 9 := Nat.pow_le_pow_right (by omega) hge
      omega

theorem gSyn : Tryd.prog.globalNamed "strconv.ErrSyntax" = some 0 := by kernel_rfl
theorem gSynType : (Tryd.prog.globals[0]?).map (·.type) = some 38 := by kernel_rfl
theorem cellsErr : Tryd.prog.cellsOf 78 = 1 := by kernel_rfl
theorem cellsStr : Tryd.prog.cellsOf 9 = 1 := by kernel_rfl
theorem starErr : "*" ++ "errors.errorString" = "*errors.errorString" := by decide
theorem rowErr (u : TypeId) (h : Tryd.prog.typeName? 3 u = some "*errors.errorString") : u = 76 :=
  typeName_ptr_named (nm := "errors.errorString") (by rw [starErr]; kernel_rfl) (by kernel_rfl) (by decide) u (by rw [starErr]; exact h)
theorem synVar_of {W : World} {rest : List (String × DataW Unit)} (h : laidMet Tryd.prog (("strconv.ErrSyntax", Rows.laid_strconv_ErrSyntax) :: rest) W) :
    ∃ p, W.var? Tryd.prog "strconv.ErrSyntax" = some #[.iface 76 p] := by
  obtain ⟨a, s, hv, _⟩ := laid_sentinel h gSyn gSynType Tryd.underlying38 rowErr Tryd.underlying76 Tryd.underlying78 rfl rfl Tryd.underlying9 cellsErr cellsStr
  exact ⟨_, hv⟩

/-- The table and the error lie ahead of all that a call makes. -/
theorem var_below {W W' : World} {n : String} {g : Nat} {cs : Array Value} (h : Below W.heap.size W W') (hg : Tryd.prog.globalNamed n = some g) (hlt : g < W.heap.size) (hv : W.var? Tryd.prog n = some cs) : W'.var? Tryd.prog n = some cs :=
  var?_below h hg hlt hv

set_option maxHeartbeats 2000000 in
theorem walkFnDec (a : Option Addr) (c : Nat) (l : List UInt8) (w : World) (hb : Bytes w a c l) (hL : laidMetH Tryd.prog Rows.fnDecRow.laid w) :
    Calls Tryd.prog 3 #[.slice a l.length c] w fun e w' => e = .returned (.bool true) ∧ Below w.heap.size w w' := by
  have h2 := laidMet.tail (laidMet.tail (show laidMet Tryd.prog _ w from hL))
  have ht := powTab_of h2
  obtain ⟨p, hv⟩ := synVar_of (laidMet.tail (laidMet.tail h2))
  have hcell : w.cell? ⟨2, 0, none⟩ = some (.int .u64 (Lib.pow10Tab.getD 0 0)) := ht.cell gPow 0 (by rw [Lib.pow10Tab_length]; omega)
  have hlt2 : 2 < w.heap.size := by
    rcases Nat.lt_or_ge 2 w.heap.size with h | h
    · exact h
    · simp [World.cell?, Array.getElem?_eq_none h] at hcell
  have HT : Hid (∀ W : World, Below w.heap.size w W → Lib.TabIs Tryd.prog W "internal/strconv.uint64pow10" .u64 Lib.pow10Tab) := fun W hB => var_below hB gPow hlt2 ht
  have HV : Hid (∀ W : World, Below w.heap.size w W → W.var? Tryd.prog "strconv.ErrSyntax" = some #[.iface 76 p]) := fun W hB => var_below hB gSyn (by omega) hv
  clear ht hv h2 hL hcell hlt2
  by_cases hbig : 1048576 < l.length
  · go_enter Tryd.func3, Tryd.ntmps3
    go_wp2_with (go_at_call 6; refine (lawsBigYes _ _ _ _ hbig).mono ?_; rintro e w' ⟨rfl, rfl⟩)
    go_ret
    exact ⟨rfl, Below.refl _ _⟩
  · go_enter Tryd.func3, Tryd.ntmps3
    go_wp2_with (go_at_call 6; refine (lawsBigNo _ _ _ _ (by omega)).mono ?_; rintro e w' ⟨rfl, rfl⟩)
    refine (specDrawDecText a c l _ hb (by omega)).mono ?_
    rintro e w1 ⟨n, rfl, hn0, hn1, B1⟩
    go_wp2_with fail
    refine (implDecText n w1 hn0 hn1 (HT.out w1 B1)).mono ?_
    rintro e w2 ⟨rfl, b2⟩
    have B2 : Below w.heap.size w w2 := B1.trans (b2.mono B1.size)
    go_wp2_with fail
    refine (specDrawReadDec a c l _ (hb.below B2) (by omega)).mono ?_
    rintro e w3 ⟨r, rfl, hr, b3⟩
    have B3 : Below w.heap.size w w3 := B2.trans (b3.mono B2.size)
    go_wp2_with fail
    refine (specDecText n w3 hn0 hn1).mono ?_
    rintro e w4 ⟨rfl, rfl⟩
    have hbb : (!((dec n).toList == (dec n).toList)) = false := by simp
    go_wp2_with fail
    refine (implReadDec r w3 (HT.out w3 B3) _ p (HV.out w3 B3)).mono ?_
    rintro e w5 ⟨rfl, b5⟩
    have B5 : Below w.heap.size w w5 := B3.trans (b5.mono B3.size)
    go_wp2_with fail
    refine (specReadDec r w5 hr).mono ?_
    rintro e w6 ⟨rfl, rfl⟩
    have hrr : (readD r.data.toList != readD r.data.toList) = false := by simp
    by_cases hin : 0 ≤ n ∧ n ≤ 999999999
    · obtain ⟨hi0, hi1⟩ := hin
      have HR := Lib.hid (readD_in n hi0 hi1)
      have hee : (n == n) = true := by simp
      go_wp2_with fail
      refine (implReadDec (dec n) w5 (HT.out w5 B5) _ p (HV.out w5 B5)).mono ?_
      rw [HR.out]
      rintro e w7 ⟨rfl, b7⟩
      go_wp2_with fail
      go_ret
      exact ⟨rfl, B5.trans (b7.mono B5.size)⟩
    · have HR := Lib.hid (readD_out n hin)
      by_cases h0 : 0 ≤ n
      · have h9 : ¬ n ≤ 999999999 := fun h => hin ⟨h0, h⟩
        clear hin
        go_wp2_with fail
        refine (implReadDec (dec n) w5 (HT.out w5 B5) _ p (HV.out w5 B5)).mono ?_
        rw [HR.out]
        rintro e w7 ⟨rfl, b7⟩
        go_wp2_with fail
        go_ret
        exact ⟨rfl, B5.trans (b7.mono B5.size)⟩
      · clear hin
        have h0' : decide (0 ≤ n) = false := by simpa using h0
        go_wp2_with fail
        refine (implReadDec (dec n) w5 (HT.out w5 B5) _ p (HV.out w5 B5)).mono ?_
        rw [HR.out]
        rintro e w7 ⟨rfl, b7⟩
        go_wp2_with fail
        go_ret
        exact ⟨rfl, B5.trans (b7.mono B5.size)⟩

noncomputable def lowFnDec : Nat := (World.holding Tryd.prog default ⟨#[], #[], []⟩).heap.size
/-- A world for the witness: the listed tables hold what the text lays. -/
noncomputable def laidWorldFnDec (os : Os) : World :=
  { World.holding Tryd.prog os ⟨#[.cells #[.string ⟨#[118, 97, 108, 117, 101, 32, 111, 117, 116, 32, 111, 102, 32, 114, 97, 110, 103, 101]⟩] 78, .cells #[.string ⟨#[105, 110, 118, 97, 108, 105, 100, 32, 115, 121, 110, 116, 97, 120]⟩] 78], #[], []⟩ with heap := ((((((World.holding Tryd.prog os ⟨#[.cells #[.string ⟨#[118, 97, 108, 117, 101, 32, 111, 117, 116, 32, 111, 102, 32, 114, 97, 110, 103, 101]⟩] 78, .cells #[.string ⟨#[105, 110, 118, 97, 108, 105, 100, 32, 115, 121, 110, 116, 97, 120]⟩] 78], #[], []⟩).heap.modify 3 fun | .cells _ t frozen => .cells #[.int .u8 0, .int .u8 1, .int .u8 28, .int .u8 2, .int .u8 29, .int .u8 14, .int .u8 24, .int .u8 3, .int .u8 30, .int .u8 22, .int .u8 20, .int .u8 15, .int .u8 25, .int .u8 17, .int .u8 4, .int .u8 8, .int .u8 31, .int .u8 27, .int .u8 13, .int .u8 23, .int .u8 21, .int .u8 19, .int .u8 16, .int .u8 7, .int .u8 26, .int .u8 12, .int .u8 18, .int .u8 6, .int .u8 11, .int .u8 5, .int .u8 10, .int .u8 9] t frozen | o => o).modify 4 fun | .cells _ t frozen => .cells #[.int .u8 0, .int .u8 1, .int .u8 56, .int .u8 2, .int .u8 57, .int .u8 49, .int .u8 28, .int .u8 3, .int .u8 61, .int .u8 58, .int .u8 42, .int .u8 50, .int .u8 38, .int .u8 29, .int .u8 17, .int .u8 4, .int .u8 62, .int .u8 47, .int .u8 59, .int .u8 36, .int .u8 45, .int .u8 43, .int .u8 51, .int .u8 22, .int .u8 53, .int .u8 39, .int .u8 33, .int .u8 30, .int .u8 24, .int .u8 18, .int .u8 12, .int .u8 5, .int .u8 63, .int .u8 55, .int .u8 48, .int .u8 27, .int .u8 60, .int .u8 41, .int .u8 37, .int .u8 16, .int .u8 46, .int .u8 35, .int .u8 44, .int .u8 21, .int .u8 52, .int .u8 32, .int .u8 23, .int .u8 11, .int .u8 54, .int .u8 26, .int .u8 40, .int .u8 15, .int .u8 34, .int .u8 20, .int .u8 31, .int .u8 10, .int .u8 25, .int .u8 14, .int .u8 19, .int .u8 9, .int .u8 13, .int .u8 8, .int .u8 7, .int .u8 6] t frozen | o => o).modify 2 fun | .cells _ t frozen => .cells #[.int .u64 1, .int .u64 10, .int .u64 100, .int .u64 1000, .int .u64 10000, .int .u64 100000, .int .u64 1000000, .int .u64 10000000, .int .u64 100000000, .int .u64 1000000000, .int .u64 10000000000, .int .u64 100000000000, .int .u64 1000000000000, .int .u64 10000000000000, .int .u64 100000000000000, .int .u64 1000000000000000, .int .u64 10000000000000000, .int .u64 100000000000000000, .int .u64 1000000000000000000, .int .u64 10000000000000000000] t frozen | o => o).modify 1 fun | .cells _ t frozen => .cells #[.iface 76 (.pointer (some ⟨lowFnDec + 0, 0, none⟩))] t frozen | o => o).modify 0 fun | .cells _ t frozen => .cells #[.iface 76 (.pointer (some ⟨lowFnDec + 1, 0, none⟩))] t frozen | o => o) }
theorem laidMetFnDec (os : Os) : laidMet Tryd.prog Rows.fnDecRow.laid ((laidWorldFnDec os).forCall (fun _ _ => 0) ⟨#[], #[.slice none 0 0], []⟩).memory :=
  laidMet_of_run' 8 (by kernel_rfl) (by kernel_rfl)
theorem readsFnDec (os : Os) {H : Type} (enc : TypeId × Value → H) : ∃ places, DataW.whole enc Tryd.prog ((laidWorldFnDec os).forCall (fun _ _ => 0) ⟨#[], #[.slice none 0 0], []⟩).memory Tryd.f3.params.toList Rows.fnDecSpec.vars false #[Value.slice none 0 0].toList 8 = some ([.nil], [], places) :=
  ⟨[], by kernel_rfl⟩

theorem contractFnDec (H : Type) (enc : TypeId × Value → H) (W : World) (base : Nat) (args : Array Value) (ds gs : List (DataW H)) (before : List MemPlace)
    (hval : ∀ (j : Nat) t v, Tryd.f3.params[j]? = some t → args[j]? = some v → Value.okWide Tryd.prog W .any base t v)
    (hW : DataW.Whole enc Tryd.prog Tryd.f3.params.toList Rows.fnDecSpec.vars false W args.toList ds gs before) (hL : laidMetH Tryd.prog Rows.fnDecRow.laid W) :
    Calls Tryd.prog 3 args W fun e W' => ∃ v, e = .returned v ∧ Rows.fnDecSpec.post enc Tryd.prog Tryd.f3 false true false false W args v W' := by
  have hW' := hW
  obtain ⟨p, q, hA0, hV, rfl, hfz, hnd⟩ := hW
  have hA : DataW.TrodAll enc Tryd.prog W 0 (fun _ => true) true Tryd.f3.params.toList args.toList ds p := hA0
  rw [Tryd.params3] at hA hval
  obtain ⟨v0, vs0, d0, ds0, p0, q0, hargs, rfl, rfl, h0, r0⟩ := trodAll_cons hA
  obtain ⟨rfl, rfl, rfl⟩ := trodAll_nil r0
  obtain rfl : args = #[v0] := by cases args; simp_all
  obtain ⟨rfl, rfl⟩ := trodVars_none hV
  obtain ⟨a0, l0, c0, rfl⟩ := okWide_slice Tryd.underlying22 (hval 0 22 v0 rfl rfl)
  have k0 := h0
  have lt0 : ∀ x ∈ p0, x.block < W.heap.size := by obtain ⟨m, hm⟩ := k0; exact DataW.trod_lt m _ _ _ hm
  obtain ⟨x0, rfl, w0⟩ : ∃ xs : List UInt8, l0 = xs.length ∧ Bytes W a0 c0 xs := Bytes_of_trod h0
  clear hA0
  refine (walkFnDec a0 c0 x0 W w0 hL).mono fun e W' ⟨he, bel⟩ => ?_
  subst he
  exact ⟨_, rfl, _, _, _, [], _, [], hW', trodAll_mk1 (shut_bool Tryd.underlying4 _), (trodAll_cons_mk (Below.trod laidOutB0 (by kernel_rfl) (of_decide_eq_true (by kernel_rfl)) k0 bel lt0) trodAll_mk0), rfl, bel.frame _, fun h => by cases h⟩

set_option maxRecDepth 100000 in
theorem liftedFnDec (os : Os) (started : os.Started) (H : Type) (enc : TypeId × Value → H) (F : Stop.Interp) :
    ReturnsInHanded {} Tryd.checked os 3 .any ((OpenSpec.ofChange Rows.fnDecSpec).preRow enc Tryd.prog Tryd.f3 Rows.fnDecRow.domain false Rows.fnDecRow.laid) (((OpenSpec.ofChange Rows.fnDecSpec).at F).post enc Tryd.prog Tryd.f3 false true false false) := by
  obtain ⟨places, hx⟩ := readsFnDec os enc
  refine returnsInHanded_of_row (C := Tryd.checked) (s := OpenSpec.ofChange Rows.fnDecSpec) ownKnobs started (by kernel_rfl) Tryd.func3
    (witness_row_atRef (enc := enc) (C := Tryd.checked) false (laidWorldFnDec os) #[.slice none 0 0] rfl (by kernel_rfl) (by kernel_rfl) (by kernel_rfl)
      (OpenSpec.preRow_of_cond 8 hx (by kernel_rfl) (fun k hk => by cases hk) (by kernel_rfl) (laidMetFnDec os))) ?_
  intro W base args ds gs before hval hW _ _ _ hL _ _
  exact contractFnDec H enc W base args ds gs before hval hW hL

theorem saidFnDec : Rows.FnDecSaid :=
  OpenClaim.holds_of_cond 3 Tryd.f3 rfl rfl rfl rfl rfl rfl rfl ⟨rfl, rfl, rfl, rfl, rfl⟩ rfl rfl rfl rfl rfl (by kernel_rfl) Tryd.func3 (by kernel_rfl)
    (of_decide_eq_true (by kernel_rfl)) (by unfold Func.isWrapper; first | (rw [if_pos (by decide +kernel)]; kernel_rfl) | (rw [if_neg (by decide +kernel)]; exact ⟨rfl, rfl⟩))
    (fun os started H enc _ F => by rw [OpenClaim.pre_eq_preRow]; exact liftedFnDec os started H enc F)

theorem plainFnDec (f : FuncId) (fn : Func) (hf : Tryd.pinned.checked.prog.funcNamed "loop.example/g00751/laws.FnDec" = some f) (hfn : Tryd.pinned.checked.prog.funcs[f]? = some fn) :
    true = Tryd.pinned.checked.prog.looks [] ∧ ∀ (j : Nat) t, fn.params[j]? = some t → Tryd.pinned.checked.prog.wantsStandIn t = false := by
  obtain rfl : f = 3 := Option.some.inj ((show Tryd.prog.funcNamed "loop.example/g00751/laws.FnDec" = some 3 by kernel_rfl).symm.trans hf) |>.symm
  obtain rfl : fn = Tryd.f3 := (Option.some.inj (Tryd.func3.symm.trans hfn)).symm
  refine ⟨by kernel_rfl, fun j t ht => ?_⟩
  rw [Tryd.params3] at ht
  obtain rfl : t = 22 := by simpa using Array.mem_of_getElem? ht
  exact (show Tryd.prog.wantsStandIn 22 = false by kernel_rfl)

theorem provedFnDec : Rows.FnDecCardSaid :=
  Claim7.holds_tied_plain_at .later [] _ _ _ _ saidFnDec (fun _ h => by cases h) (by kernel_rfl) (fun _ h => by cases h) fnDec_row_tie rfl ⟨rfl, rfl⟩ (by kernel_rfl) rfl plainFnDec (by kernel_rfl)

#print axioms provedFnDec
end Go.Proofs.YtboanhfmmhjepaaDoor
