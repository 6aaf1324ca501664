/- The place of the first thing of a name. Written by tools/gen_plan.py. -/
/- impl.placeOf over a list of Col. Written by tools/gen_plan.py. -/
/- Rows of the call's own that grow. -/
/- impl.namesWhere over columns. Written by tools/gen_use.py. -/
/- spec.Nodes counts the nodes. -/
/- impl.eachNode: a walk over all nodes of an expression, for any function that sees them. -/
/- impl.eachNode with the function that collects the columns. -/
/- impl.eachNode collects the columns of all nodes. -/
import Derived.Test.YtjjdcdnaonfnmaaGreatMTyp2
import Derived.Test.YtjjdcdnaonfnmaaGreatMDatU
import Derived.Test.YtjjdcdnaonfnmaaGreatMMem
import Derived.Test.YtjjdcdnaonfnmaaGreatMPut
import Derived.Deep.RegionHeld3
import Derived.Deep.Light
namespace Go.Proofs.YtjjdcdnaonfnmaaGreat
open Go.RowKit

/-- The place of the first thing of that name; -1 where there is none. -/
def findAt {X : Type} (f : X → ByteArray) : List X → ByteArray → Int
  | [], _ => -1
  | x :: r, n => if ((f x).toList == n.toList) = true then 0 else if findAt f r n < 0 then -1 else findAt f r n + 1

theorem findAt_hit {X : Type} (f : X → ByteArray) (xs : List X) (n : ByteArray) (k : Nat) (h : k < xs.length) (hne : ∀ m (hm : m < xs.length), m < k → ((f xs[m]).toList == n.toList) = false) (he : ((f xs[k]).toList == n.toList) = true) : findAt f xs n = k := by
  induction xs generalizing k with
  | nil => simp at h
  | cons x r ih =>
    cases k with
    | zero =>
      have he' : ((f x).toList == n.toList) = true := he
      rw [findAt, if_pos he']
      rfl
    | succ k =>
      have h0 : ((f x).toList == n.toList) = false := hne 0 (by simp) (by omega)
      have hr := ih k (by simpa using h) (fun m hm hmk => hne (m + 1) (by simpa using hm) (by omega)) he
      rw [findAt, if_neg (by rw [h0]; simp), hr, if_neg (by omega)]
      omega

theorem findAt_miss {X : Type} (f : X → ByteArray) (xs : List X) (n : ByteArray) (hne : ∀ m (hm : m < xs.length), ((f xs[m]).toList == n.toList) = false) : findAt f xs n = -1 := by
  induction xs with
  | nil => rfl
  | cons x r ih =>
    have h0 : ((f x).toList == n.toList) = false := hne 0 (by simp)
    have hr := ih fun m hm => hne (m + 1) (by simpa using hm)
    rw [findAt, if_neg (by rw [h0]; simp), hr, if_pos (by omega)]

theorem findAt_small {X : Type} (f : X → ByteArray) (xs : List X) (n : ByteArray) : -1 ≤ findAt f xs n ∧ findAt f xs n < xs.length := by
  induction xs with
  | nil => simp [findAt]
  | cons x r ih =>
    rw [findAt, List.length_cons]
    split
    · omega
    · split <;> omega

end Go.Proofs.YtjjdcdnaonfnmaaGreat

namespace Go.Proofs.YtjjdcdnaonfnmaaGreat
open Go.RowKit

set_option maxHeartbeats 1000000 in
theorem ownCo (vs : List Value) (x : Co) (w : World) (hR : ∃ lo w', RCo lo w' vs x) :
    Calls Tryz.prog 159 #[.agg vs.toArray] w fun e w' => e = .returned (.string x.name) ∧ Below w.heap.size w w' := by
  obtain ⟨_, _, hR⟩ := hR
  obtain ⟨a0, c0, rfl, _⟩ := hR
  go_enter Tryz.func159, Tryz.ntmps159
  go_wp2_with fail
  go_ret
  exact ⟨rfl, (Below.refl _ _).alloc (Nat.le_refl _) _⟩

end Go.Proofs.YtjjdcdnaonfnmaaGreat

namespace Go.Proofs.YtjjdcdnaonfnmaaGreat
open Go.RowKit

theorem strsOne (w : World) (s : ByteArray) (hs : s.size ≤ maxLen) : Strs (w.alloc (.cells #[.string s] 9)) (some ⟨w.heap.size, 0, none⟩) 1 [s] := by
  refine ⟨by simp, by unfold maxLen; omega, by simpa using hs, (fun h => by cases h), fun _ => ⟨w.heap.size, 0, rfl, by simp, fun i hi => ?_⟩⟩
  have : i = 0 := by simpa using hi
  subst this
  simp [go_sem]

theorem Own.alloc {w : World} {B : Nat} {a : Option Addr} {c : Nat} {xs : List ByteArray} (h : Own w B a c xs) (o : Obj) : Own (w.alloc o) B a c xs :=
  h.below ((Below.refl _ _).alloc (Nat.le_refl _) _)

theorem Own.drewN {w : World} {B : Nat} {a : Option Addr} {c : Nat} {xs : List ByteArray} (h : Own w B a c xs) (n : Nat) : Own (w.drewN n) B a c xs :=
  h.below (below_drewN (Below.refl _ _) n)

theorem ownEmpty (w : World) : Own (w.alloc (.cells #[] 9)) w.heap.size (some ⟨w.heap.size, 0, none⟩) 0 [] := by
  have := World.ownsRow_lit (base := w.heap.size) (e := 9) (size := 1) w #[] 0 (Nat.le_refl _) (by unfold maxLen; omega) rfl
  exact this

/-- A row of the call's own, one text appended behind a new block: what is below stays. -/
theorem appended {w wr w2 : World} {B : Nat} {a : Option Addr} {c : Nat} {ys : List ByteArray} (hb : Below B w wr) (hBw : B ≤ w.heap.size) (hown : Own wr B a c ys) {o : Obj} (hg : (wr.alloc o).grownBy w2 (Value.slice a ys.length c).ownBlock) : Below B w w2 := by
  have h1 : Below B w (wr.alloc o) := hb.alloc (Nat.le_trans hBw hb.size) o
  exact h1.grown hg (by have := hb.size; simp; omega) (fun k hk => (hown.lt hk).1)

set_option maxRecDepth 100000 in
/-- append of one text to a row of the call's own, and where the new row lies. -/
theorem wpAppendLoc {w : World} {ops : Array Oper} {rest : List Oper} {o : Oper} {A : Act} {Q : Exit → Act → World → Prop} (hgd : o.guard = none) (s x : Operand)
    (ho : o.op = .call { callee := .builtin .append, args := #[s, x], argTypes := #[30, 30] })
    (i0 : TypeInfo) (hi0 : Tryz.prog.info? 9 = some i0) (hz0 : i0.zero = some (.string ByteArray.empty)) (hz1 : i0.size = 1) (hz2 : i0.bytes = 16)
    (B : Nat) (a : Option Addr) (c : Nat) (xs : List ByteArray) (g : Nat) (y : ByteArray)
    (hs : A.eval s = .slice a xs.length c) (hown : Own w B a c xs) (hx : A.eval x = .slice (some ⟨g, 0, none⟩) 1 1) (hy : w.cell? ⟨g, 0, none⟩ = some (.string y))
    (hn : xs.length + 1 ≤ 8388608) (hB : B ≤ w.heap.size)
    (h : ∀ a' c' w', Own w' B a' c' (xs ++ [y]) → w.grownBy w' (Value.slice a xs.length c).ownBlock → ((Value.slice a' (xs ++ [y]).length c').ownBlock = (Value.slice a xs.length c).ownBlock ∨ (Value.slice a' (xs ++ [y]).length c').ownBlock = some w.heap.size) →
      wpList Tryz.prog ops Q rest (A.put o.dst (.slice a' (xs ++ [y]).length c')) w') :
    wpList Tryz.prog ops Q (o :: rest) A w := by
  refine wpList_append_own_at _ hgd s x 30 ho B 9 i0 (.string ByteArray.empty) 1 16 Tryz.underlying30 hi0 hz0 hz1 hz2 rfl (by decide) (.slice a xs.length c) xs.length (xs.map Value.string) hs hown
    ⟨g, 0, none⟩ 1 1 [.string y] hx (by simp) ?_ (strings_one [y]) (by unfold maxLen; omega) (by omega) hB ?_
  · intro j u hu
    cases j with
    | zero => cases hu; exact hy
    | succ j => cases hu
  · intro v' w' hown' hg _ hl
    have hf : ∃ a' c', v' = .slice a' (xs.length + 1) c' := by
      rcases hown'.2 with ⟨rfl, h0⟩ | ⟨g, cap, cur, rfl, _⟩
      · exact ⟨none, 0, by rw [h0]⟩
      · exact ⟨_, _, rfl⟩
    obtain ⟨a', c', rfl⟩ := hf
    have := h a' c' w' (by unfold Own; simpa using hown') hg (by simpa using hl)
    simpa using this

end Go.Proofs.YtjjdcdnaonfnmaaGreat

namespace Go.Proofs.YtjjdcdnaonfnmaaGreat
open Go.RowKit

set_option maxRecDepth 100000 in
set_option maxHeartbeats 4000000 in
theorem nwEnum (a : Option Addr) (c : Nat) (xs : List Co) (w : World) (fr0 : Value) (pred : Co → Bool) (hx : Sl 6 RCo 0 w a c xs) (hn : xs.length ≤ 1048576)
    (HW : Hid (∀ (W : World) (vs : List Value) (x : Co), Below w.heap.size w W → RCo 0 W vs x → Calls Tryz.prog 34 #[.agg vs.toArray, fr0] W fun e w' => e = .returned (.bool (pred x)) ∧ Below W.heap.size W w')) :
    Calls Tryz.prog 33 #[.slice a xs.length c, .func (.func 34) #[] #[fr0]] w (NewStrs w ((xs.filter pred).map Co.name)) := by
  obtain ⟨i0, hi0, hz0, hz1, hz2⟩ := info_parts Tryz.infoString
  have hl := hx.len
  have HX := Lib.hid (fun w' (hb : Below w.heap.size w w') => hx.kept goodCo (Kept.below hb))
  have hm : ∀ (v : Value) (w : World), (method 323 60 v "loop.example/g00751/impl.ownName").run Tryz.prog w = .ok (159, v) w := fun _ _ => by kernel_rfl
  clear hx
  go_enter Tryz.func33, Tryz.ntmps33
  go_wp2_with fail
  go_loopw [5, 10] (fun o i wr => ∃ (k : Nat) (ys : List ByteArray) (a' : Option Addr) (c' : Nat), k ≤ xs.length ∧ i = .int .i64 k ∧ o = .slice a' ys.length c' ∧ ys.length ≤ k ∧ Hid (ys = ((xs.take k).filter pred).map Co.name ∧ Own wr w.heap.size a' c' ys ∧ Below w.heap.size w wr)) (fun _ i _ => xs.length - (intOf i).toNat)
  case atStart => exact ⟨0, [], none, 0, Nat.zero_le _, rfl, rfl, Nat.le_refl _, rfl, Own.nil _ _, Below.refl _ _⟩
  case round =>
    obtain ⟨k, ys, a1, c1, hk, rfl, rfl, hyl, hS⟩ := hrel
    by_cases hlt : k < xs.length
    · obtain ⟨b, off, vs, rfl, hbl, hcs, hR⟩ := (HX.out _ hS.out.2.2).spot hlt
      have HR := hR
      obtain ⟨p0, q0, rfl, hfit, _⟩ := hR
      have hsm : xs[k].name.size ≤ maxLen := hfit.1
      have HK := Lib.hid HR
      obtain ⟨v, hv⟩ : ∃ v, pred xs[k] = v := ⟨_, rfl⟩
      have HWk := Lib.hid (fun (W : World) (vs : List Value) (hB : Below w.heap.size w W) (hRW : RCo 0 W vs (xs[k]'hlt)) => HW.out W vs (xs[k]'hlt) hB hRW)
      rw [hv] at HWk
      have HV := Lib.hid hv
      have hc0 : wr.cell? ⟨b, off + k * 6, none⟩ = some (.string xs[k].name) := hcs 0 (by simp)
      have hc1 : wr.cell? ⟨b, off + k * 6 + 1, none⟩ = some (.int .i64 xs[k].ty.kind) := hcs 1 (by simp)
      have hc2 : wr.cell? ⟨b, off + k * 6 + 2, none⟩ = some (.int .i64 xs[k].ty.len) := hcs 2 (by simp)
      have hc3 : wr.cell? ⟨b, off + k * 6 + 3, none⟩ = some (.string xs[k].ty.name) := hcs 3 (by simp)
      have hc4 : wr.cell? ⟨b, off + k * 6 + 4, none⟩ = some (.bool xs[k].notNull) := hcs 4 (by simp)
      have hc5 : wr.cell? ⟨b, off + k * 6 + 5, none⟩ = some (.slice p0 xs[k].dflt.length q0) := hcs 5 (by simp)
      clear HR hcs hv
      go_wp2_with fail
      have hba : Below wr.heap.size wr (wr.alloc (.cells #[.string xs[k].name, .int .i64 xs[k].ty.kind, .int .i64 xs[k].ty.len, .string xs[k].ty.name, .bool xs[k].notNull, .slice p0 xs[k].dflt.length q0] 60)) := (Below.refl _ _).alloc (Nat.le_refl _) _
      refine (HWk.out _ _ (hS.out.2.2.trans (hba.mono hS.out.2.2.size)) (goodCo.kept HK.out (Kept.below hba))).mono ?_
      rintro e w2 ⟨rfl, b2⟩
      have A2 := Lib.hid (show Blk w2 wr.heap.size [.string xs[k].name, .int .i64 xs[k].ty.kind, .int .i64 xs[k].ty.len, .string xs[k].ty.name, .bool xs[k].notNull, .slice p0 xs[k].dflt.length q0] from Blk.call b2 (blk_new wr _ [.string xs[k].name, .int .i64 xs[k].ty.kind, .int .i64 xs[k].ty.len, .string xs[k].ty.name, .bool xs[k].notNull, .slice p0 xs[k].dflt.length q0]))
      have HB2 := Lib.hid (hba.trans (b2.mono hba.size))
      clear b2 hba
      have g0 : w2.cell? ⟨wr.heap.size, 0, none⟩ = some (.string xs[k].name) := (A2.out.2 0 (by simp)).1
      have g1 : w2.cell? ⟨wr.heap.size, 1, none⟩ = some (.int .i64 xs[k].ty.kind) := (A2.out.2 1 (by simp)).1
      have g2 : w2.cell? ⟨wr.heap.size, 2, none⟩ = some (.int .i64 xs[k].ty.len) := (A2.out.2 2 (by simp)).1
      have g3 : w2.cell? ⟨wr.heap.size, 3, none⟩ = some (.string xs[k].ty.name) := (A2.out.2 3 (by simp)).1
      have g4 : w2.cell? ⟨wr.heap.size, 4, none⟩ = some (.bool xs[k].notNull) := (A2.out.2 4 (by simp)).1
      have g5 : w2.cell? ⟨wr.heap.size, 5, none⟩ = some (.slice p0 xs[k].dflt.length q0) := (A2.out.2 5 (by simp)).1
      have HTK := Lib.hid (take_filter pred xs k hlt)
      cases v with
      | false =>
        have HE : Hid (((xs.take (k + 1)).filter pred).map Co.name = ((xs.take k).filter pred).map Co.name) := by unfold Hid; rw [HTK.out, if_neg (by rw [HV.out]; decide), List.append_nil]
        go_wp2_with fail
        go_roundw
        case rel => exact ⟨k + 1, ys, a1, c1, by omega, by go_num, rfl, by omega, by rw [HE.out]; exact hS.out.1, hS.out.2.1.below HB2.out, hS.out.2.2.trans (HB2.out.mono hS.out.2.2.size)⟩
        case measure => simp [intOf]; omega
      | true =>
        have HE : Hid (((xs.take (k + 1)).filter pred).map Co.name = ((xs.take k).filter pred).map Co.name ++ [xs[k].name]) := by unfold Hid; rw [HTK.out, if_pos HV.out, List.map_append]; rfl
        have HO := Lib.hid (fun W => ownCo _ xs[k] W ⟨0, _, HK.out⟩)
        go_wp2_with fail
        refine (HO.out w2).mono ?_
        rintro e w3 ⟨rfl, b3⟩
        have HB3 := Lib.hid (HB2.out.trans (b3.mono HB2.out.size))
        have HOW := Lib.hid (hS.out.2.1.below HB3.out)
        clear b3 g0 g1 g2 g3 g4 g5
        have hw3 : w.heap.size ≤ w3.heap.size := Nat.le_trans hS.out.2.2.size HB3.out.size
        go_wp2_with (at_builtin; refine wpAppendStrs rfl _ _ rfl i0 hi0 hz0 hz1 hz2 w.heap.size a1 c1 ys (some ⟨_, 0, none⟩) 1 [xs[k].name] rfl (HOW.out.alloc _) rfl (strsOne _ _ hsm) (by simp only [List.length_cons, List.length_nil]; omega) (by simp; omega) ?_; intro a9 c9 w9 hown9 hg9)
        have HN9 := Lib.hid (And.intro hown9 (appended (hS.out.2.2.trans (HB3.out.mono hS.out.2.2.size)) (Nat.le_refl _) HOW.out hg9))
        clear hown9 hg9
        go_wp2_with fail
        go_roundw
        case rel => exact ⟨k + 1, ys ++ [xs[k].name], a9, c9, by omega, by go_num, by simp, by simp; omega, by rw [HE.out, hS.out.1], HN9.out.1, HN9.out.2⟩
        case measure => simp [intOf]; omega
    · obtain rfl : k = xs.length := by omega
      go_wp2_with fail
      go_ret
      have h1 := hS.out.1
      rw [List.take_length] at h1
      subst h1
      exact ⟨a1, c1, rfl, hS.out.2.1, hS.out.2.2⟩

end Go.Proofs.YtjjdcdnaonfnmaaGreat

namespace Go.Proofs.YtjjdcdnaonfnmaaGreat
open Go.RowKit

theorem nodesL_mono (l : List Ex) (k : Nat) : nodesL (l.take k) ≤ nodesL l := by
  induction l generalizing k with
  | nil => simp
  | cons e r ih =>
    cases k with
    | zero => simp [nodesL]
    | succ k => simp only [List.take_succ_cons, nodesL]; have := ih k; omega

theorem nodesL_get {l : List Ex} {k : Nat} (h : k < l.length) : l[k].nodes ≤ nodesL l := by
  have h1 := nodesL_take l k h
  have h2 := nodesL_mono l (k + 1)
  omega

end Go.Proofs.YtjjdcdnaonfnmaaGreat

namespace Go.Proofs.YtjjdcdnaonfnmaaGreat
open Go.RowKit

/-- As KidsAt, and every block of the tree is one of q. -/
def KidsQ (q : Nat → Prop) (w : World) : Nat → Option Addr → Nat → List Ex → Prop
  | 0, _, _, _ => False
  | d + 1, a, c, kids => kids.length ≤ c ∧ c ≤ maxLen ∧ (a = none → c = 0) ∧
    (0 < kids.length → ∃ b off, a = some ⟨b, off, none⟩ ∧ q b ∧ b < w.heap.size ∧ ∀ (i : Nat) (h : i < kids.length), At1 w b (off + i * 4) kids[i] (fun a' c' => KidsQ q w d a' c' kids[i].kids))

theorem KidsQ.agree {q : Nat → Prop} {w w' : World} (hs : w.heap.size ≤ w'.heap.size) (hc : ∀ b, q b → b < w.heap.size → ∀ o, w'.cell? ⟨b, o, none⟩ = w.cell? ⟨b, o, none⟩) :
    ∀ {d : Nat} {a : Option Addr} {c : Nat} {kids : List Ex}, KidsQ q w d a c kids → KidsQ q w' d a c kids
  | 0, _, _, _, h => h
  | d + 1, a, c, kids, h => by
    obtain ⟨h1, h2, h3, h4⟩ := h
    refine ⟨h1, h2, h3, fun hp => ?_⟩
    obtain ⟨b, off, ha, hlo, hlt, hcs⟩ := h4 hp
    refine ⟨b, off, ha, hlo, Nat.lt_of_lt_of_le hlt hs, fun i hi => ?_⟩
    obtain ⟨c1, c2, c3, hf, a', c', c4, hk⟩ := hcs i hi
    have e := hc b hlo hlt
    exact ⟨(e _).trans c1, (e _).trans c2, (e _).trans c3, hf, a', c', (e _).trans c4, KidsQ.agree hs hc hk⟩

theorem KidsQ.imp {q q' : Nat → Prop} {w : World} (hq : ∀ b, q b → b < w.heap.size → q' b) : ∀ {d : Nat} {a : Option Addr} {c : Nat} {kids : List Ex}, KidsQ q w d a c kids → KidsQ q' w d a c kids
  | 0, _, _, _, h => h
  | d + 1, a, c, kids, h => by
    obtain ⟨h1, h2, h3, h4⟩ := h
    refine ⟨h1, h2, h3, fun hp => ?_⟩
    obtain ⟨b, off, ha, hlo, hlt, hcs⟩ := h4 hp
    exact ⟨b, off, ha, hq b hlo hlt, hlt, fun i hi => (hcs i hi).mono fun a' c' hk => KidsQ.imp hq hk⟩

theorem KidsAt.q {w : World} : ∀ {d : Nat} {a : Option Addr} {c : Nat} {kids : List Ex}, KidsAt w d a c kids → KidsQ (fun b => b < w.heap.size) w d a c kids
  | 0, _, _, _, h => h
  | d + 1, a, c, kids, h => by
    obtain ⟨h1, h2, h3, h4⟩ := h
    refine ⟨h1, h2, h3, fun hp => ?_⟩
    obtain ⟨b, off, ha, hlt, hcs⟩ := h4 hp
    exact ⟨b, off, ha, hlt, hlt, fun i hi => (hcs i hi).mono fun a' c' hk => hk.q⟩

theorem KidsQ.at {q : Nat → Prop} {w : World} : ∀ {d : Nat} {a : Option Addr} {c : Nat} {kids : List Ex}, KidsQ q w d a c kids → KidsAt w d a c kids
  | 0, _, _, _, h => h
  | d + 1, a, c, kids, h => by
    obtain ⟨h1, h2, h3, h4⟩ := h
    refine ⟨h1, h2, h3, fun hp => ?_⟩
    obtain ⟨b, off, ha, _, hlt, hcs⟩ := h4 hp
    exact ⟨b, off, ha, hlt, fun i hi => (hcs i hi).mono fun a' c' hk => hk.at⟩

theorem KidsQ.spot {q : Nat → Prop} {w : World} {d : Nat} {a : Option Addr} {c : Nat} {kids : List Ex} (h : KidsQ q w (d + 1) a c kids) {i : Nat} (hi : i < kids.length) :
    ∃ b off, a = some ⟨b, off, none⟩ ∧ q b ∧ b < w.heap.size ∧ At1 w b (off + i * 4) kids[i] (fun a' c' => KidsQ q w d a' c' kids[i].kids) := by
  obtain ⟨_, _, _, h4⟩ := h
  obtain ⟨b, off, ha, hq, hlt, hc⟩ := h4 (by omega)
  exact ⟨b, off, ha, hq, hlt, hc i hi⟩

mutual
/-- Every node is right. -/
def Ex.all (chk : Ex → Bool) : Ex → Bool
  | .mk k t n kids => chk (.mk k t n kids) && allL chk kids
def allL (chk : Ex → Bool) : List Ex → Bool
  | [] => true
  | e :: r => e.all chk && allL chk r
end

theorem Ex.all_eq (chk : Ex → Bool) (e : Ex) : e.all chk = (chk e && allL chk e.kids) := by
  cases e; rw [Ex.all]; rfl

theorem allL_drop (chk : Ex → Bool) (l : List Ex) (k : Nat) (h : k < l.length) : allL chk (l.drop k) = (l[k].all chk && allL chk (l.drop (k + 1))) := by
  rw [List.drop_eq_getElem_cons h, allL]

theorem nodesL_drop (l : List Ex) (k : Nat) (h : k < l.length) : nodesL (l.drop k) = l[k].nodes + nodesL (l.drop (k + 1)) := by
  rw [List.drop_eq_getElem_cons h, nodesL]

/-- A list of kids that waits. -/
structure Pd where
  a : Option Addr
  c : Nat
  kids : List Ex

def Pd.v (p : Pd) : Value := .slice p.a p.kids.length p.c
def sumP (ps : List Pd) : Nat := (ps.map fun p => nodesL p.kids).sum
def allP (chk : Ex → Bool) (ps : List Pd) : Bool := ps.all fun p => allL chk p.kids

theorem sumP_snoc (ps : List Pd) (p : Pd) : sumP (ps ++ [p]) = sumP ps + nodesL p.kids := by simp [sumP]
theorem allP_snoc (chk : Ex → Bool) (ps : List Pd) (p : Pd) : allP chk (ps ++ [p]) = (allP chk ps && allL chk p.kids) := by simp [allP]

theorem nodesL_len : (l : List Ex) → l.length ≤ nodesL l
  | [] => by simp [nodesL]
  | e :: r => by rw [nodesL, List.length_cons]; have := nodesL_len r; have := Ex.nodes_eq e; omega

theorem sumP_len (ps : List Pd) (h : ∀ p ∈ ps, 0 < p.kids.length) : ps.length ≤ sumP ps := by
  induction ps with
  | nil => simp
  | cons p r ih =>
    have h1 := h p (List.mem_cons_self ..)
    have h2 := nodesL_len p.kids
    have h3 := ih fun q hq => h q (List.mem_cons_of_mem _ hq)
    simp only [sumP, List.map_cons, List.sum_cons, List.length_cons] at h3 ⊢
    omega

def SeeX (good : Bool) (pc : List PanicEntry) : Ending := if good then .returned (.tuple #[]) else .panicked pc

/-- How a function sees one node: it counts in the cell of block wb, and panics with pv where the node is not right. -/
def Sees (J : World → Prop) (k wb : Nat) (chk : Ex → Bool) (lim : Nat) (pc : List PanicEntry) : Prop := ∀ (e : Ex) (a : Option Addr) (c d m : Nat) (w : World), J w → e.fit → KidsAt w d a c e.kids →
  w.cell? ⟨wb, 0, none⟩ = some (.int .i64 m) → w.frozen? ⟨wb, 0, none⟩ = false → m ≤ 1073741824 →
  Calls Tryz.prog k #[.pointer (some ⟨wb, 0, none⟩), .agg #[.int .i64 e.kind, .string e.text, .int .i64 e.num, .slice a e.kids.length c]] w fun x w' =>
    w.grownBy w' (some wb) ∧ w'.cell? ⟨wb, 0, none⟩ = some (.int .i64 (m + 1 : Nat)) ∧ w'.frozen? ⟨wb, 0, none⟩ = false ∧
    x = SeeX (chk e && decide (m + 1 ≤ lim)) pc

/-- What a walk over all nodes answers. -/
def EachP (w : World) (wb : Nat) (chk : Ex → Bool) (lim : Nat) (pc : List PanicEntry) (e : Ex) (m : Nat) (x : Ending) (w' : World) : Prop :=
  w.grownBy w' (some wb) ∧ x = SeeX (e.all chk && decide (m + e.nodes ≤ lim)) pc ∧ (e.all chk = true → m + e.nodes ≤ lim → w'.cell? ⟨wb, 0, none⟩ = some (.int .i64 (m + e.nodes : Nat)))

theorem Tryz.infoKidsS : (Tryz.prog.info? 58).map (fun i => (i.zero, i.size, i.bytes)) = some (some (.slice none 0 0), 1, 24) := by kernel_rfl

/-- Where the trees lie that the walk reads. -/
def InQ (w : World) (wb b : Nat) : Prop := b = w.heap.size + 1 ∨ (b < w.heap.size ∧ b ≠ wb)

/-- What waits, and what has been counted. -/
structure WInv (w : World) (wb : Nat) (ps : List Pd) (v : Value) (mm : Nat) (wr : World) : Prop where
  row : wr.ownsRow (w.heap.size + 2) 58 1 v ps.length (ps.map Pd.v)
  kids : ∀ p ∈ ps, 0 < p.kids.length ∧ ∃ d, KidsQ (InQ w wb) wr d p.a p.c p.kids
  grown : w.grownBy wr (some wb)
  size : w.heap.size + 2 < wr.heap.size
  lt : wb < w.heap.size
  cell : wr.cell? ⟨wb, 0, none⟩ = some (.int .i64 mm)
  frozen : wr.frozen? ⟨wb, 0, none⟩ = false

theorem cell_grown {w w' : World} {row : Option Nat} (hg : w.grownBy w' row) {b : Nat} (hb : b < w.heap.size) (hne : row ≠ some b) (o : Nat) : w'.cell? ⟨b, o, none⟩ = w.cell? ⟨b, o, none⟩ :=
  hg.cell_far ⟨b, o, none⟩ hb (fun h => hne h.symm)

theorem kids_grown {w wr w2 : World} {wb : Nat} {row : Option Nat} (hsz : w.heap.size + 2 < wr.heap.size) (hg : wr.grownBy w2 row) (hrow : ∀ b, row = some b → b = wb ∨ w.heap.size + 2 ≤ b) (hwb : wb < w.heap.size) {d : Nat} {a : Option Addr} {c : Nat} {kids : List Ex}
    (h : KidsQ (InQ w wb) wr d a c kids) : KidsQ (InQ w wb) w2 d a c kids := by
  refine h.agree hg.size fun b hq hb o => cell_grown hg hb ?_ o
  intro e
  rcases hrow b e with h1 | h1
  · rcases hq with h2 | h2 <;> omega
  · rcases hq with h2 | h2 <;> omega

theorem WInv.next {w wr w2 : World} {wb mm mm' : Nat} {ps : List Pd} {v : Value} {row : Option Nat} (h : WInv w wb ps v mm wr) (hg : wr.grownBy w2 row) (hrow : row = none ∨ row = some wb) (hc : w2.cell? ⟨wb, 0, none⟩ = some (.int .i64 mm')) (hz : w2.frozen? ⟨wb, 0, none⟩ = false) : WInv w wb ps v mm' w2 := by
  have hl := h.lt
  refine ⟨h.row.kept hg ?_, fun p hp => ⟨(h.kids p hp).1, ?_⟩, ?_, Nat.lt_of_lt_of_le h.size hg.size, h.lt, hc, hz⟩
  · cases ho : v.ownBlock with
    | none => exact .inl rfl
    | some g =>
      right
      have := (h.row.lt g ho).1
      rcases hrow with rfl | rfl
      · simp
      · intro e; cases e; omega
  · obtain ⟨d, hk⟩ := (h.kids p hp).2
    exact ⟨d, kids_grown h.size hg (by rintro b rfl; rcases hrow with h1 | h1 <;> cases h1; exact .inl rfl) h.lt hk⟩
  · exact h.grown.andThen hg (by rintro j rfl; rcases hrow with h1 | h1 <;> cases h1; exact .inr rfl)

theorem WInv.alloc {w wr : World} {wb mm : Nat} {ps : List Pd} {v : Value} (h : WInv w wb ps v mm wr) (o : Obj) : WInv w wb ps v mm (wr.alloc o) := by
  have hlt : wb < wr.heap.size := Nat.lt_of_lt_of_le h.lt h.grown.size
  have hb : Below wr.heap.size wr (wr.alloc o) := (Below.refl _ _).alloc (Nat.le_refl _) o
  have hg : wr.grownBy (wr.alloc o) none := ⟨hb.os, hb.tape, hb.output, hb.size, fun k hk _ => hb.block k hk⟩
  exact h.next hg (.inl rfl) ((hg.cell_far ⟨wb, 0, none⟩ hlt (by simp)).trans h.cell) ((hg.frozen_far ⟨wb, 0, none⟩ hlt (by simp)).trans h.frozen)

theorem WInv.push {w wr w2 : World} {wb mm : Nat} {ps : List Pd} {v v' : Value} (h : WInv w wb ps v mm wr) (p : Pd) (hp : 0 < p.kids.length) {d : Nat} (hk : KidsQ (InQ w wb) wr d p.a p.c p.kids)
    (hrow : w2.ownsRow (w.heap.size + 2) 58 1 v' (ps.length + 1) (ps.map Pd.v ++ [p.v])) (hg : wr.grownBy w2 v.ownBlock) : WInv w wb (ps ++ [p]) v' mm w2 := by
  have hl := h.lt
  have hlt : wb < wr.heap.size := Nat.lt_of_lt_of_le h.lt h.grown.size
  have hown : ∀ b, v.ownBlock = some b → w.heap.size + 2 ≤ b := fun b hb => (h.row.lt b hb).1
  have hne : some wb ≠ v.ownBlock := fun e => by have := hown wb e.symm; omega
  refine ⟨by simpa using hrow, fun q hq => ?_, ?_, Nat.lt_of_lt_of_le h.size hg.size, h.lt, (hg.cell_far ⟨wb, 0, none⟩ hlt hne).trans h.cell, (hg.frozen_far ⟨wb, 0, none⟩ hlt hne).trans h.frozen⟩
  · rcases List.mem_append.1 hq with hq | hq
    · obtain ⟨d, hk⟩ := (h.kids q hq).2
      exact ⟨(h.kids q hq).1, d, kids_grown h.size hg (fun b hb => .inr (hown b hb)) h.lt hk⟩
    · rw [List.mem_singleton] at hq
      subst hq
      exact ⟨hp, d, kids_grown h.size hg (fun b hb => .inr (hown b hb)) h.lt hk⟩
  · exact h.grown.andThen hg fun j hj => .inl (by have := hown j hj; omega)

theorem WInv.form {w wr : World} {wb mm : Nat} {ps : List Pd} {v : Value} (h : WInv w wb ps v mm wr) : ∃ a c, v = .slice a ps.length c := by
  rcases h.row.2 with ⟨hv, hn⟩ | ⟨g, cap, cur, hv, _⟩
  · exact ⟨none, 0, by rw [hv, hn]⟩
  · exact ⟨_, _, hv⟩

theorem WInv.pop {w wr : World} {wb mm : Nat} {ps : List Pd} {p : Pd} {v : Value} (h : WInv w wb (ps ++ [p]) v mm wr) :
    ∃ g cap, v = .slice (some ⟨g, 0, none⟩) (ps.length + 1) cap ∧ ps.length + 1 ≤ cap ∧ cap ≤ maxLen ∧ wr.cell? ⟨g, ps.length, none⟩ = some p.v ∧ WInv w wb ps (.slice (some ⟨g, 0, none⟩) ps.length cap) mm wr ∧ 0 < p.kids.length ∧ ∃ d, KidsQ (InQ w wb) wr d p.a p.c p.kids := by
  obtain ⟨hp, hk⟩ := h.kids p (List.mem_append_right _ (List.mem_singleton.2 rfl))
  have hr := h.row
  rcases h.row.2 with ⟨_, hn⟩ | ⟨g, cap, cur, hv, hB, hg, hnc, hcm, hcs, ht⟩
  · simp at hn
  · subst hv
    refine ⟨g, cap, by simp, by simpa using hnc, hcm, ?_, ⟨?_, fun q hq => h.kids q (List.mem_append_left _ hq), h.grown, h.size, h.lt, h.cell, h.frozen⟩, hp, hk⟩
    · rw [hr.cellAt ps.length (by simp)]
      simp
    · refine ⟨by simp, .inr ⟨g, cap, cur, rfl, hB, hg, by simp at hnc; omega, hcm, hcs, ?_⟩⟩
      have := congrArg (List.take (ps.length * 1)) ht
      simpa [List.take_take, Nat.min_eq_left] using this

def cellN (wr : World) (wb : Nat) : Nat := match wr.cell? ⟨wb, 0, none⟩ with | some v => (intOf v).toNat | none => 0

theorem WInv.cellN {w wr : World} {wb mm : Nat} {ps : List Pd} {v : Value} (h : WInv w wb ps v mm wr) : cellN wr wb = mm := by
  unfold Go.Proofs.YtjjdcdnaonfnmaaGreat.cellN
  rw [h.cell]
  simp [intOf]

theorem WInv.start {w : World} {wb m : Nat} {e : Ex} {a : Option Addr} {c d : Nat} (hfit : e.fit) (hk : KidsQ (fun b => b ≠ wb) w d a c e.kids) (hwb : wb < w.heap.size) (hm : w.cell? ⟨wb, 0, none⟩ = some (.int .i64 m)) (hz : w.frozen? ⟨wb, 0, none⟩ = false) (o : Obj) {W : World}
    (hW : W = ((w.alloc o).alloc (.cells #[.int .i64 e.kind, .string e.text, .int .i64 e.num, .slice a e.kids.length c] 162)).alloc (.cells #[.slice (some ⟨w.heap.size + 1, 0, none⟩) 1 1] 58)) :
    WInv w wb [⟨some ⟨w.heap.size + 1, 0, none⟩, 1, [e]⟩] (.slice (some ⟨w.heap.size + 1 + 1, 0, none⟩) 1 1) m W := by
  have hb : Below w.heap.size w W := by
    subst hW
    exact (((Below.refl _ _).alloc (Nat.le_refl _) _).alloc (by simp) _).alloc (by simp; omega) _
  have hg : w.grownBy W none := ⟨hb.os, hb.tape, hb.output, hb.size, fun k hk _ => hb.block k hk⟩
  have hsz : W.heap.size = w.heap.size + 3 := by subst hW; simp
  refine ⟨?_, fun p hp => ?_, hg.but _, by omega, hwb, (hg.cell_far ⟨wb, 0, none⟩ hwb (by simp)).trans hm, (hg.frozen_far ⟨wb, 0, none⟩ hwb (by simp)).trans hz⟩
  · subst hW
    have := World.ownsRow_lit (base := w.heap.size + 2) (e := 58) (size := 1) ((w.alloc o).alloc (.cells #[.int .i64 e.kind, .string e.text, .int .i64 e.num, .slice a e.kids.length c] 162)) #[.slice (some ⟨w.heap.size + 1, 0, none⟩) 1 1] 1 (by simp) (by unfold maxLen; omega) rfl
    simpa [Pd.v] using this
  · rw [List.mem_singleton] at hp
    subst hp
    refine ⟨by simp, d + 1, by simp, by show 1 ≤ maxLen; unfold maxLen; omega, (fun h => by cases h), fun _ => ⟨w.heap.size + 1, 0, rfl, .inl rfl, by omega, fun i hi => ?_⟩⟩
    have : i = 0 := by simpa using hi
    subst this
    have hk' : KidsQ (InQ w wb) W d a c e.kids := (hk.imp (q' := InQ w wb) fun b h1 h2 => .inr ⟨h2, h1⟩).agree hb.size fun b _ h o => hb.cell (p := ⟨b, o, none⟩) h
    refine ⟨?_, ?_, ?_, hfit, a, c, ?_, hk'⟩ <;> subst hW <;> simp [go_sem]

end Go.Proofs.YtjjdcdnaonfnmaaGreat

namespace Go.Proofs.YtjjdcdnaonfnmaaGreat
open Go.RowKit

/-- What has turned: the block wb, the block of one row, and new ones. -/
def Turn2 (w w' : World) (wb : Nat) (row : Option Nat) : Prop :=
  w'.os = w.os ∧ w'.tape = w.tape ∧ w'.output = w.output ∧ w.heap.size ≤ w'.heap.size ∧ ∀ k, k < w.heap.size → k ≠ wb → some k ≠ row → w'.heap[k]? = w.heap[k]?

/-- The texts collected so far lie in a row of their own, to which the cell of block wb points. -/
structure Coll (wb B : Nat) (a : Option Addr) (c : Nat) (outs : List ByteArray) (w : World) : Prop where
  cell : w.cell? ⟨wb, 0, none⟩ = some (.slice a outs.length c)
  frozen : w.frozen? ⟨wb, 0, none⟩ = false
  own : Own w B a c outs
  lt : wb < B
  le : B ≤ w.heap.size

theorem Coll.wlt {wb B : Nat} {a : Option Addr} {c : Nat} {outs : List ByteArray} {w : World} (h : Coll wb B a c outs w) : wb < w.heap.size := Nat.lt_of_lt_of_le h.lt h.le

theorem Coll.below {wb B : Nat} {a : Option Addr} {c : Nat} {outs : List ByteArray} {w w' : World} (h : Coll wb B a c outs w) (hb : Below w.heap.size w w') : Coll wb B a c outs w' :=
  ⟨(hb.cell (p := ⟨wb, 0, none⟩) h.wlt).trans h.cell, (hb.frozen (p := ⟨wb, 0, none⟩) h.wlt).trans h.frozen, h.own.below hb, h.lt, Nat.le_trans h.le hb.size⟩

/-- One text more. -/
theorem coll_more {wb B : Nat} {a a' : Option Addr} {c c' : Nat} {outs : List ByteArray} {s : ByteArray} {w w1 w2 w3 : World} (h : Coll wb B a c outs w) (hb : Below w.heap.size w w1)
    (hown : Own w2 B a' c' (outs ++ [s])) (hg : w1.grownBy w2 (Value.slice a outs.length c).ownBlock) (hat : (Value.slice a' (outs ++ [s]).length c').ownBlock = (Value.slice a outs.length c).ownBlock ∨ (Value.slice a' (outs ++ [s]).length c').ownBlock = some w1.heap.size)
    {n : Nat} (hn : n = (outs ++ [s]).length) (h3 : w3 = w2.setCell ⟨wb, 0, none⟩ (.slice a' n c')) :
    Coll wb B a' c' (outs ++ [s]) w3 ∧ Turn2 w w3 wb (Value.slice a outs.length c).ownBlock ∧ ((Value.slice a' (outs ++ [s]).length c').ownBlock = (Value.slice a outs.length c).ownBlock ∨ ∃ g, (Value.slice a' (outs ++ [s]).length c').ownBlock = some g ∧ w.heap.size ≤ g) := by
  subst hn h3
  have hlt := h.lt
  have hle := h.le
  have h1s := hb.size
  have h2s := hg.size
  have hne : some wb ≠ (Value.slice a outs.length c).ownBlock := fun e => by have := (h.own.lt e.symm).1; omega
  have hne' : ∀ g, (Value.slice a' (outs ++ [s]).length c').ownBlock = some g → g ≠ wb := fun g e => by have := (hown.lt e).1; omega
  have hcell : w2.cell? ⟨wb, 0, none⟩ = some (.slice a outs.length c) := (hg.cell_far ⟨wb, 0, none⟩ (by show wb < _; omega) hne).trans ((hb.cell (p := ⟨wb, 0, none⟩) h.wlt).trans h.cell)
  have hfz : w2.frozen? ⟨wb, 0, none⟩ = false := (hg.frozen_far ⟨wb, 0, none⟩ (by show wb < _; omega) hne).trans ((hb.frozen (p := ⟨wb, 0, none⟩) h.wlt).trans h.frozen)
  refine ⟨⟨World.cell?_setCell_same _ _ _ hcell, by rw [World.frozen?_setCell]; exact hfz, ?_, hlt, by simp [World.setCell]; omega⟩, ⟨?_, ?_, ?_, by simp [World.setCell]; omega, fun k hk hkw hkr => ?_⟩, ?_⟩
  · exact ownsRow_block hown fun g hg' => Below.heap_setCell _ _ _ _ (hne' g hg')
  · rw [← hb.os, ← hg.os]; rfl
  · rw [← hb.tape, ← hg.tape]; rfl
  · rw [← hb.output, ← hg.output]; rfl
  · rw [Below.heap_setCell _ _ _ _ hkw, hg.block k (by omega) hkr, hb.block k hk]
  · rcases hat with e | e
    · exact .inl e
    · exact .inr ⟨_, e, hb.size⟩

def SeesC (w : World) (wb B : Nat) (a : Option Addr) (c : Nat) (outs : List ByteArray) (e : Ex) (x : Ending) (w' : World) : Prop :=
  x = .returned (.tuple #[]) ∧ ∃ a' c', Coll wb B a' c' (outs ++ own1 e) w' ∧ Turn2 w w' wb (Value.slice a outs.length c).ownBlock ∧
    ((Value.slice a' (outs ++ own1 e).length c').ownBlock = (Value.slice a outs.length c).ownBlock ∨ ∃ g, (Value.slice a' (outs ++ own1 e).length c').ownBlock = some g ∧ w.heap.size ≤ g)

theorem below_turn2 {w w' : World} (hb : Below w.heap.size w w') (wb : Nat) (row : Option Nat) : Turn2 w w' wb row := ⟨hb.os, hb.tape, hb.output, hb.size, fun k hk _ _ => hb.block k hk⟩

/-- append of one text, and where the new row lies. -/
theorem wpAppendOne {w : World} {ops : Array Oper} {rest : List Oper} {o : Oper} {A : Act} {Q : Exit → Act → World → Prop} (hgd : o.guard = none) (s x : Operand)
    (ho : o.op = .call { callee := .builtin .append, args := #[s, x], argTypes := #[30, 30] })
    (i0 : TypeInfo) (hi0 : Tryz.prog.info? 9 = some i0) (hz0 : i0.zero = some (.string ByteArray.empty)) (hz1 : i0.size = 1) (hz2 : i0.bytes = 16)
    (B : Nat) (a : Option Addr) (c : Nat) (xs : List ByteArray) (y : ByteArray) (w0 : World) (hw : w = w0.alloc (.cells #[.string y] 9))
    (hs : A.eval s = .slice a xs.length c) (hown : Own w0 B a c xs) (hx : A.eval x = .slice (some ⟨w0.heap.size, 0, none⟩) 1 1)
    (hn : xs.length + 1 ≤ 8388608) (hB : B ≤ w0.heap.size)
    (h : ∀ a' c' w', Hid (Own w' B a' c' (xs ++ [y]) ∧ w.grownBy w' (Value.slice a xs.length c).ownBlock ∧ ((Value.slice a' (xs ++ [y]).length c').ownBlock = (Value.slice a xs.length c).ownBlock ∨ (Value.slice a' (xs ++ [y]).length c').ownBlock = some w.heap.size)) → wpList Tryz.prog ops Q rest (A.put o.dst (.slice a' (xs.length + 1) c')) w') :
    wpList Tryz.prog ops Q (o :: rest) A w := by
  subst hw
  have hown1 : Own (w0.alloc (.cells #[.string y] 9)) B a c xs := hown.alloc _
  refine wpList_append_own_at _ hgd s x 30 ho B 9 i0 (.string ByteArray.empty) 1 16 Tryz.underlying30 hi0 hz0 hz1 hz2 rfl (by decide) (.slice a xs.length c) xs.length (xs.map Value.string) hs hown1
    ⟨w0.heap.size, 0, none⟩ 1 1 [.string y] hx rfl (cell_one_new _ _ _) (fun u hu => by simp at hu; subst hu; rfl) (by unfold maxLen; omega) (by omega) (by simp; omega) ?_
  intro v' w' hown' hg _ hat
  obtain ⟨a', c', rfl⟩ : ∃ a' c', v' = .slice a' (xs.length + 1) c' := by
    rcases hown'.2 with ⟨_, h0⟩ | ⟨g, cap, cur, rfl, _⟩
    · omega
    · exact ⟨_, _, rfl⟩
  refine h a' c' w' ⟨?_, hg, ?_⟩
  · unfold Own; simpa using hown'
  · simpa using hat

end Go.Proofs.YtjjdcdnaonfnmaaGreat

namespace Go.Proofs.YtjjdcdnaonfnmaaGreat
open Go.RowKit

/-- What waits, and what has been collected. -/
structure CInv (w : World) (wb : Nat) (ps : List Pd) (v : Value) (ao : Option Addr) (co : Nat) (outs : List ByteArray) (wr : World) : Prop where
  row : wr.ownsRow (w.heap.size + 2) 58 1 v ps.length (ps.map Pd.v)
  kids : ∀ p ∈ ps, 0 < p.kids.length ∧ ∃ d, KidsQ (InQ w wb) wr d p.a p.c p.kids
  grown : w.grownBy wr (some wb)
  size : w.heap.size + 2 < wr.heap.size
  lt : wb < w.heap.size
  coll : Coll wb (w.heap.size + 2) ao co outs wr
  apart : ∀ g, v.ownBlock = some g → (Value.slice ao outs.length co).ownBlock ≠ some g

theorem kids_turn2 {w wr w2 : World} {wb : Nat} {row : Option Nat} (ht : Turn2 wr w2 wb row) (hrow : ∀ b, row = some b → w.heap.size + 2 ≤ b) (hwb : wb < w.heap.size) {d : Nat} {a : Option Addr} {c : Nat} {kids : List Ex}
    (h : KidsQ (InQ w wb) wr d a c kids) : KidsQ (InQ w wb) w2 d a c kids := by
  refine h.agree ht.2.2.2.1 fun b hq hb o => World.cell?_of_block (a := ⟨b, o, none⟩) (ht.2.2.2.2 b hb ?_ ?_)
  · rcases hq with h2 | h2 <;> omega
  · intro e
    have := hrow b e.symm
    rcases hq with h2 | h2 <;> omega

theorem CInv.turn {w wr w2 : World} {wb : Nat} {ps : List Pd} {v : Value} {ao ao' : Option Addr} {co co' : Nat} {outs outs' : List ByteArray} (h : CInv w wb ps v ao co outs wr) (ht : Turn2 wr w2 wb (Value.slice ao outs.length co).ownBlock)
    (hc : Coll wb (w.heap.size + 2) ao' co' outs' w2) (hat : (Value.slice ao' outs'.length co').ownBlock = (Value.slice ao outs.length co).ownBlock ∨ ∃ g, (Value.slice ao' outs'.length co').ownBlock = some g ∧ wr.heap.size ≤ g) :
    CInv w wb ps v ao' co' outs' w2 := by
  have hl := h.lt
  have hro : ∀ b, (Value.slice ao outs.length co).ownBlock = some b → w.heap.size + 2 ≤ b := fun b hb => (h.coll.own.lt hb).1
  refine ⟨ownsRow_block h.row fun g hg => ?_, fun p hp => ⟨(h.kids p hp).1, ?_⟩, ?_, Nat.lt_of_lt_of_le h.size ht.2.2.2.1, hl, hc, fun g hg e => ?_⟩
  · have hgl := h.row.lt g hg
    exact ht.2.2.2.2 g hgl.2 (by omega) (fun e => h.apart g hg e.symm)
  · obtain ⟨d, hk⟩ := (h.kids p hp).2
    exact ⟨d, kids_turn2 ht hro hl hk⟩
  · refine ⟨ht.1.trans h.grown.os, ht.2.1.trans h.grown.tape, ht.2.2.1.trans h.grown.output, Nat.le_trans h.grown.size ht.2.2.2.1, fun k hk hne => ?_⟩
    rw [ht.2.2.2.2 k (Nat.lt_of_lt_of_le hk h.grown.size) (fun e => hne (by rw [e])) (fun e => by have := hro k e.symm; omega), h.grown.block k hk hne]
  · have hgl := h.row.lt g hg
    rcases hat with e2 | ⟨g2, e2, hge⟩
    · exact h.apart g hg (e2.symm.trans e)
    · rw [e2] at e
      have := Option.some.inj e
      omega

theorem CInv.below {w wr w2 : World} {wb : Nat} {ps : List Pd} {v : Value} {ao : Option Addr} {co : Nat} {outs : List ByteArray} (h : CInv w wb ps v ao co outs wr) (hb : Below wr.heap.size wr w2) : CInv w wb ps v ao co outs w2 :=
  h.turn (below_turn2 hb _ _) (h.coll.below hb) (.inl rfl)

theorem CInv.alloc {w wr : World} {wb : Nat} {ps : List Pd} {v : Value} {ao : Option Addr} {co : Nat} {outs : List ByteArray} (h : CInv w wb ps v ao co outs wr) (o : Obj) : CInv w wb ps v ao co outs (wr.alloc o) :=
  h.below ((Below.refl _ _).alloc (Nat.le_refl _) o)

theorem CInv.push {w wr w2 : World} {wb : Nat} {ps : List Pd} {v v' : Value} {ao : Option Addr} {co : Nat} {outs : List ByteArray} (h : CInv w wb ps v ao co outs wr) (p : Pd) (hp : 0 < p.kids.length) {d : Nat} (hk : KidsQ (InQ w wb) wr d p.a p.c p.kids)
    (hrow : w2.ownsRow (w.heap.size + 2) 58 1 v' (ps.length + 1) (ps.map Pd.v ++ [p.v])) (hg : wr.grownBy w2 v.ownBlock) (hat : v'.ownBlock = v.ownBlock ∨ v'.ownBlock = some wr.heap.size) : CInv w wb (ps ++ [p]) v' ao co outs w2 := by
  have hl := h.lt
  have hlt : wb < wr.heap.size := Nat.lt_of_lt_of_le h.lt h.grown.size
  have hown : ∀ b, v.ownBlock = some b → w.heap.size + 2 ≤ b := fun b hb => (h.row.lt b hb).1
  have hne : some wb ≠ v.ownBlock := fun e => by have := hown wb e.symm; omega
  refine ⟨by simpa using hrow, fun q hq => ?_, ?_, Nat.lt_of_lt_of_le h.size hg.size, h.lt, ⟨(hg.cell_far ⟨wb, 0, none⟩ hlt hne).trans h.coll.cell, (hg.frozen_far ⟨wb, 0, none⟩ hlt hne).trans h.coll.frozen, ?_, h.coll.lt, Nat.le_trans h.coll.le hg.size⟩, fun g hgo e => ?_⟩
  · rcases List.mem_append.1 hq with hq | hq
    · obtain ⟨d, hk⟩ := (h.kids q hq).2
      exact ⟨(h.kids q hq).1, d, kids_grown h.size hg (fun b hb => .inr (hown b hb)) h.lt hk⟩
    · rw [List.mem_singleton] at hq
      subst hq
      exact ⟨hp, d, kids_grown h.size hg (fun b hb => .inr (hown b hb)) h.lt hk⟩
  · exact h.grown.andThen hg fun j hj => .inl (by have := hown j hj; omega)
  · exact ownsRow_block h.coll.own fun g hg' => hg.block g (h.coll.own.lt hg').2 (fun e => h.apart g e.symm hg')
  · rcases hat with e2 | e2
    · exact h.apart g (e2.symm.trans hgo) e
    · rw [e2] at hgo
      have := (h.coll.own.lt e).2
      have := Option.some.inj hgo
      omega

theorem CInv.form {w wr : World} {wb : Nat} {ps : List Pd} {v : Value} {ao : Option Addr} {co : Nat} {outs : List ByteArray} (h : CInv w wb ps v ao co outs wr) : ∃ a c, v = .slice a ps.length c := by
  rcases h.row.2 with ⟨hv, hn⟩ | ⟨g, cap, cur, hv, _⟩
  · exact ⟨none, 0, by rw [hv, hn]⟩
  · exact ⟨_, _, hv⟩

theorem CInv.pop {w wr : World} {wb : Nat} {ps : List Pd} {p : Pd} {v : Value} {ao : Option Addr} {co : Nat} {outs : List ByteArray} (h : CInv w wb (ps ++ [p]) v ao co outs wr) :
    ∃ g cap, v = .slice (some ⟨g, 0, none⟩) (ps.length + 1) cap ∧ ps.length + 1 ≤ cap ∧ cap ≤ maxLen ∧ wr.cell? ⟨g, ps.length, none⟩ = some p.v ∧ CInv w wb ps (.slice (some ⟨g, 0, none⟩) ps.length cap) ao co outs wr ∧ 0 < p.kids.length ∧ ∃ d, KidsQ (InQ w wb) wr d p.a p.c p.kids := by
  obtain ⟨hp, hk⟩ := h.kids p (List.mem_append_right _ (List.mem_singleton.2 rfl))
  have hr := h.row
  have hap := h.apart
  rcases h.row.2 with ⟨_, hn⟩ | ⟨g, cap, cur, hv, hB, hg, hnc, hcm, hcs, ht⟩
  · simp at hn
  · subst hv
    refine ⟨g, cap, by simp, by simpa using hnc, hcm, ?_, ⟨?_, fun q hq => h.kids q (List.mem_append_left _ hq), h.grown, h.size, h.lt, h.coll, fun q hq => hap q hq⟩, hp, hk⟩
    · rw [hr.cellAt ps.length (by simp)]
      simp
    · refine ⟨by simp, .inr ⟨g, cap, cur, rfl, hB, hg, by simp at hnc; omega, hcm, hcs, ?_⟩⟩
      have := congrArg (List.take (ps.length * 1)) ht
      simpa [List.take_take, Nat.min_eq_left] using this

theorem CInv.start {w : World} {wb : Nat} {e : Ex} {a : Option Addr} {c d : Nat} (hfit : e.fit) (hk : KidsQ (fun b => b ≠ wb) w d a c e.kids) (hwb : wb < w.heap.size) (hm : w.cell? ⟨wb, 0, none⟩ = some (.slice none 0 0)) (hz : w.frozen? ⟨wb, 0, none⟩ = false) (o : Obj) {W : World}
    (hW : W = ((w.alloc o).alloc (.cells #[.int .i64 e.kind, .string e.text, .int .i64 e.num, .slice a e.kids.length c] 162)).alloc (.cells #[.slice (some ⟨w.heap.size + 1, 0, none⟩) 1 1] 58)) :
    CInv w wb [⟨some ⟨w.heap.size + 1, 0, none⟩, 1, [e]⟩] (.slice (some ⟨w.heap.size + 1 + 1, 0, none⟩) 1 1) none 0 [] W := by
  have hb : Below w.heap.size w W := by
    subst hW
    exact (((Below.refl _ _).alloc (Nat.le_refl _) _).alloc (by simp) _).alloc (by simp; omega) _
  have hg : w.grownBy W none := ⟨hb.os, hb.tape, hb.output, hb.size, fun k hk _ => hb.block k hk⟩
  have hsz : W.heap.size = w.heap.size + 3 := by subst hW; simp
  refine ⟨?_, fun p hp => ?_, hg.but _, by omega, hwb, ⟨(hg.cell_far ⟨wb, 0, none⟩ hwb (by simp)).trans hm, (hg.frozen_far ⟨wb, 0, none⟩ hwb (by simp)).trans hz, Own.nil _ _, by omega, by omega⟩, fun g _ h => by cases h⟩
  · subst hW
    have := World.ownsRow_lit (base := w.heap.size + 2) (e := 58) (size := 1) ((w.alloc o).alloc (.cells #[.int .i64 e.kind, .string e.text, .int .i64 e.num, .slice a e.kids.length c] 162)) #[.slice (some ⟨w.heap.size + 1, 0, none⟩) 1 1] 1 (by simp) (by unfold maxLen; omega) rfl
    simpa [Pd.v] using this
  · rw [List.mem_singleton] at hp
    subst hp
    refine ⟨by simp, d + 1, by simp, by show 1 ≤ maxLen; unfold maxLen; omega, (fun h => by cases h), fun _ => ⟨w.heap.size + 1, 0, rfl, .inl rfl, by omega, fun i hi => ?_⟩⟩
    have : i = 0 := by simpa using hi
    subst this
    have hk' : KidsQ (InQ w wb) W d a c e.kids := (hk.imp (q' := InQ w wb) fun b h1 h2 => .inr ⟨h2, h1⟩).agree hb.size fun b _ h o => hb.cell (p := ⟨b, o, none⟩) h
    refine ⟨?_, ?_, ?_, hfit, a, c, ?_, hk'⟩ <;> subst hW <;> simp [go_sem]

def colP (ps : List Pd) : List ByteArray := ps.flatMap fun p => colsL p.kids
theorem colP_snoc (ps : List Pd) (p : Pd) : colP (ps ++ [p]) = colP ps ++ colsL p.kids := by simp [colP]
theorem colsL_drop (l : List Ex) (k : Nat) (h : k < l.length) : colsL (l.drop k) = l[k].cols ++ colsL (l.drop (k + 1)) := by
  rw [List.drop_eq_getElem_cons h, colsL]

/-- What a walk over all nodes collects. -/
def EachC (w : World) (wb : Nat) (e : Ex) (x : Ending) (w' : World) : Prop :=
  x = .returned (.tuple #[]) ∧ w.grownBy w' (some wb) ∧ ∃ ao co outs, Coll wb (w.heap.size + 2) ao co outs w' ∧ (∀ t, t ∈ outs ↔ t ∈ e.cols) ∧ outs.length ≤ e.nodes

end Go.Proofs.YtjjdcdnaonfnmaaGreat
