/- The program's text of a statement of each kind. Written by tools/gen_put.py. -/
import Derived.Test.YtpdcmmhhgnackaaGreatDoorMPutSc
import Derived.Test.YtpdcmmhhgnackaaGreatDoorMPutStA
import Derived.Test.YtpdcmmhhgnackaaGreatDoorMPutStB
import Derived.Test.YtpdcmmhhgnackaaGreatDoorMPhC
namespace Go.Proofs.YtpdcmmhhgnackaaGreatDoor
open Go.RowKit

theorem own_addr {w : World} {B : Nat} {a : Option Addr} {c : Nat} {xs : List ByteArray} (h : Own w B a c xs) : a = none ∨ ∃ b off, a = some ⟨b, off, none⟩ := by
  unfold Own at h
  rcases h.2 with ⟨hv, hn⟩ | ⟨g, cap, cur, hv, hb⟩
  · simp only [Value.slice.injEq] at hv
    exact .inl hv.1
  · simp only [Value.slice.injEq] at hv
    exact .inr ⟨_, _, hv.1⟩

set_option maxRecDepth 100000 in
set_option maxHeartbeats 4000000 in
theorem implPutK_0 (name on : ByteArray) (list : List ByteArray) (num : Int) (flag : Bool) (ty : Ty) (cols : List Co) (rules : List Ru) (exprs : List Ex) (a0 a1 a2 a3 : Option Addr) (c0 c1 c2 c3 : Nat) (w : World) (hl : namesB list 12 = true) (HT : Hid (∀ W, Below w.heap.size w W → TabR W)) (HK : Hid (∀ w', Below w.heap.size w w' → Ss 0 w' a0 c0 list ∧ Sl 6 RCo 0 w' a1 c1 cols ∧ Sl 6 RRu 0 w' a2 c2 rules ∧ Ks 0 w' a3 c3 exprs)) (Zn : Hid (name.size ≤ 1048576)) (Zo : Hid (on.size ≤ 1048576)) (Zt : Hid (ty.name.size ≤ 1048576)) (Zl : Hid (lets list ≤ 1048576)) (Zc : Hid (∀ x ∈ cols, x.wt ≤ 1048576)) (Zr : Hid (∀ x ∈ rules, x.wt ≤ 1048576)) (Zx : Hid (∀ x ∈ exprs, x.wt ≤ 1048576)) (hty : i64E ty.kind) (HOK : Hid (∀ W, Below w.heap.size w W → Calls Tryz.prog 54 #[.agg #[.int .i64 0, .string name, .string on, .slice a0 list.length c0, .int .i64 num, .bool flag, .int .i64 ty.kind, .int .i64 ty.len, .string ty.name, .slice a1 cols.length c1, .slice a2 rules.length c2, .slice a3 exprs.length c3]] W fun e w' => e = .returned (.bool true) ∧ Below W.heap.size W w')) (qn : nmB name = true) (r : ByteArray) (hr : joinT (parts_0 name on list num flag ty cols rules exprs) (txt [32]) = r) :
    Calls Tryz.prog 19 #[.agg #[.int .i64 0, .string name, .string on, .slice a0 list.length c0, .int .i64 num, .bool flag, .int .i64 ty.kind, .int .i64 ty.len, .string ty.name, .slice a1 cols.length c1, .slice a2 rules.length c2, .slice a3 exprs.length c3]] w fun e w' => e = .returned (.string r) ∧ Below w.heap.size w w' := by
  have zN : (nameT name).size ≤ 82 := nameT_small qn
  have hs : startB 0 flag = (ByteArray.mk #[99, 114, 101, 97, 116, 101, 32, 116, 121, 112, 101]) := rfl
  have HCS := Lib.hid (fun W' => phStart 0 name on list num flag ty cols rules exprs a0 a1 a2 a3 c0 c1 c2 c3 W' (by omega) Zn (nameT name) (Lib.hid rfl) zN (ByteArray.mk #[99, 114, 101, 97, 116, 101, 32, 116, 121, 112, 101]) hs)
  obtain ⟨n1, n2, n3⟩ := namesB_parts hl
  have hln : list.length ≤ 12 := by omega
  have hsz : ∀ s ∈ (list.map labS), s.size ≤ 82 := by
    intro t ht
    obtain ⟨u, hu, rfl⟩ := List.mem_map.1 ht
    exact labS_small (n3 u hu)
  have hLL := lets_leq (list.map labS) 82 hsz
  have hJl := joinT_le (list.map labS) 82 hsz
  rw [List.length_map] at hLL hJl
  have zT : (parT (list.map labS)).size ≤ 5000 := by
    unfold parT
    rw [ByteArray.size_append, ByteArray.size_append, show (txt [40]).size = 1 from rfl, show (txt [41]).size = 1 from rfl]
    omega
  have hJ : lets (parts_0 name on list num flag ty cols rules exprs) + (parts_0 name on list num flag ty cols rules exprs).length ≤ 1073741824 := by
    have h := lets_leq (parts_0 name on list num flag ty cols rules exprs) 100000000 (by
      show ∀ s ∈ [(ByteArray.mk #[99, 114, 101, 97, 116, 101, 32, 116, 121, 112, 101]), nameT name, (ByteArray.mk #[97, 115, 32, 101, 110, 117, 109]), parT (list.map labS)], s.size ≤ 100000000
      intro s hs
      simp only [List.mem_cons, List.not_mem_nil, or_false] at hs
      rcases hs with rfl | rfl | rfl | rfl
      · decide
      · omega
      · decide
      · omega)
    have h2 : (parts_0 name on list num flag ty cols rules exprs).length = 4 := rfl
    omega
  refine implPut_enumPhrase 0 name on list num flag ty cols rules exprs a0 a1 a2 a3 c0 c1 c2 c3 w (by omega) writerAt_0 HOK (parts_0 name on list num flag ty cols rules exprs) (Lib.hid fun W hb => ?_) hJ r hr
  exact phEnum 0 name on list num flag ty cols rules exprs a0 a1 a2 a3 c0 c1 c2 c3 W [(ByteArray.mk #[99, 114, 101, 97, 116, 101, 32, 116, 121, 112, 101]), nameT name] (by simp) (by simp) HCS (list.map labS) (by rw [List.length_map]; omega) (Lib.hid fun W2 hb2 => (textsL a0 c0 list W2 (HK.out W2 (hb.trans (hb2.mono hb.size))).1.sl trivial (fun x hx => by have h1 := lets_mem hx; have h2 := Zl.out; omega) (by omega) (fun x hx => by have h1 : (labS x).size ≤ 82 := hsz _ (List.mem_map_of_mem hx); exact Nat.le_trans h1 (by decide))).mono (by rintro e w3 ⟨a4, c4, rfl, ho, hb3⟩; exact ⟨a4, c4, by rw [List.length_map], ho.strs (fun s hs => by have h1 := hsz s hs; unfold maxLen; omega), hb3⟩)) (parT (list.map labS)) (by omega) (by rw [List.length_map]; omega) rfl (parts_0 name on list num flag ty cols rules exprs) rfl

set_option maxRecDepth 100000 in
set_option maxHeartbeats 4000000 in
theorem implPutK_1 (name on : ByteArray) (list : List ByteArray) (num : Int) (flag : Bool) (ty : Ty) (cols : List Co) (rules : List Ru) (exprs : List Ex) (a0 a1 a2 a3 : Option Addr) (c0 c1 c2 c3 : Nat) (w : World)  (HT : Hid (∀ W, Below w.heap.size w W → TabR W)) (HK : Hid (∀ w', Below w.heap.size w w' → Ss 0 w' a0 c0 list ∧ Sl 6 RCo 0 w' a1 c1 cols ∧ Sl 6 RRu 0 w' a2 c2 rules ∧ Ks 0 w' a3 c3 exprs)) (Zn : Hid (name.size ≤ 1048576)) (Zo : Hid (on.size ≤ 1048576)) (Zt : Hid (ty.name.size ≤ 1048576)) (Zl : Hid (lets list ≤ 1048576)) (Zc : Hid (∀ x ∈ cols, x.wt ≤ 1048576)) (Zr : Hid (∀ x ∈ rules, x.wt ≤ 1048576)) (Zx : Hid (∀ x ∈ exprs, x.wt ≤ 1048576)) (hty : i64E ty.kind) (HOK : Hid (∀ W, Below w.heap.size w W → Calls Tryz.prog 54 #[.agg #[.int .i64 1, .string name, .string on, .slice a0 list.length c0, .int .i64 num, .bool flag, .int .i64 ty.kind, .int .i64 ty.len, .string ty.name, .slice a1 cols.length c1, .slice a2 rules.length c2, .slice a3 exprs.length c3]] W fun e w' => e = .returned (.bool true) ∧ Below W.heap.size W w')) (qn : nmB name = true) (r : ByteArray) (hr : joinT (parts_1 name on list num flag ty cols rules exprs) (txt [32]) = r) :
    Calls Tryz.prog 19 #[.agg #[.int .i64 1, .string name, .string on, .slice a0 list.length c0, .int .i64 num, .bool flag, .int .i64 ty.kind, .int .i64 ty.len, .string ty.name, .slice a1 cols.length c1, .slice a2 rules.length c2, .slice a3 exprs.length c3]] w fun e w' => e = .returned (.string r) ∧ Below w.heap.size w w' := by
  have zN : (nameT name).size ≤ 82 := nameT_small qn
  have hs : startB 1 flag = (ByteArray.mk #[100, 114, 111, 112, 32, 116, 121, 112, 101]) := rfl
  have HCS := Lib.hid (fun W' => phStart 1 name on list num flag ty cols rules exprs a0 a1 a2 a3 c0 c1 c2 c3 W' (by omega) Zn (nameT name) (Lib.hid rfl) zN (ByteArray.mk #[100, 114, 111, 112, 32, 116, 121, 112, 101]) hs)
  have hJ : lets (parts_1 name on list num flag ty cols rules exprs) + (parts_1 name on list num flag ty cols rules exprs).length ≤ 1073741824 := by
    have h := lets_leq (parts_1 name on list num flag ty cols rules exprs) 100000000 (by
      show ∀ s ∈ [(ByteArray.mk #[100, 114, 111, 112, 32, 116, 121, 112, 101]), nameT name], s.size ≤ 100000000
      intro s hs
      simp only [List.mem_cons, List.not_mem_nil, or_false] at hs
      rcases hs with rfl | rfl
      · decide
      · omega)
    have h2 : (parts_1 name on list num flag ty cols rules exprs).length = 2 := rfl
    omega
  refine implPut_start 1 name on list num flag ty cols rules exprs a0 a1 a2 a3 c0 c1 c2 c3 w (by omega) writerAt_1 HOK (parts_1 name on list num flag ty cols rules exprs) (Lib.hid fun W hb => ?_) hJ r hr
  exact HCS.out W

set_option maxRecDepth 100000 in
set_option maxHeartbeats 4000000 in
theorem implPutK_2 (name on : ByteArray) (list : List ByteArray) (num : Int) (flag : Bool) (ty : Ty) (cols : List Co) (rules : List Ru) (exprs : List Ex) (a0 a1 a2 a3 : Option Addr) (c0 c1 c2 c3 : Nat) (w : World) (hnum : 0 ≤ num ∧ num ≤ 999999999) (HT : Hid (∀ W, Below w.heap.size w W → TabR W)) (HK : Hid (∀ w', Below w.heap.size w w' → Ss 0 w' a0 c0 list ∧ Sl 6 RCo 0 w' a1 c1 cols ∧ Sl 6 RRu 0 w' a2 c2 rules ∧ Ks 0 w' a3 c3 exprs)) (Zn : Hid (name.size ≤ 1048576)) (Zo : Hid (on.size ≤ 1048576)) (Zt : Hid (ty.name.size ≤ 1048576)) (Zl : Hid (lets list ≤ 1048576)) (Zc : Hid (∀ x ∈ cols, x.wt ≤ 1048576)) (Zr : Hid (∀ x ∈ rules, x.wt ≤ 1048576)) (Zx : Hid (∀ x ∈ exprs, x.wt ≤ 1048576)) (hty : i64E ty.kind) (HOK : Hid (∀ W, Below w.heap.size w W → Calls Tryz.prog 54 #[.agg #[.int .i64 2, .string name, .string on, .slice a0 list.length c0, .int .i64 num, .bool flag, .int .i64 ty.kind, .int .i64 ty.len, .string ty.name, .slice a1 cols.length c1, .slice a2 rules.length c2, .slice a3 exprs.length c3]] W fun e w' => e = .returned (.bool true) ∧ Below W.heap.size W w')) (qn : nmB name = true) (r : ByteArray) (hr : joinT (parts_2 name on list num flag ty cols rules exprs) (txt [32]) = r) :
    Calls Tryz.prog 19 #[.agg #[.int .i64 2, .string name, .string on, .slice a0 list.length c0, .int .i64 num, .bool flag, .int .i64 ty.kind, .int .i64 ty.len, .string ty.name, .slice a1 cols.length c1, .slice a2 rules.length c2, .slice a3 exprs.length c3]] w fun e w' => e = .returned (.string r) ∧ Below w.heap.size w w' := by
  have zN : (nameT name).size ≤ 82 := nameT_small qn
  have hs : startB 2 flag = (ByteArray.mk #[99, 114, 101, 97, 116, 101, 32, 115, 101, 113, 117, 101, 110, 99, 101]) := rfl
  have HCS := Lib.hid (fun W' => phStart 2 name on list num flag ty cols rules exprs a0 a1 a2 a3 c0 c1 c2 c3 W' (by omega) Zn (nameT name) (Lib.hid rfl) zN (ByteArray.mk #[99, 114, 101, 97, 116, 101, 32, 115, 101, 113, 117, 101, 110, 99, 101]) hs)
  have zT : (dec num).size ≤ 21 := dec_size num (by omega) (by omega)
  have hJ : lets (parts_2 name on list num flag ty cols rules exprs) + (parts_2 name on list num flag ty cols rules exprs).length ≤ 1073741824 := by
    have h := lets_leq (parts_2 name on list num flag ty cols rules exprs) 100000000 (by
      show ∀ s ∈ [(ByteArray.mk #[99, 114, 101, 97, 116, 101, 32, 115, 101, 113, 117, 101, 110, 99, 101]), nameT name, (ByteArray.mk #[115, 116, 97, 114, 116]), dec num], s.size ≤ 100000000
      intro s hs
      simp only [List.mem_cons, List.not_mem_nil, or_false] at hs
      rcases hs with rfl | rfl | rfl | rfl
      · decide
      · omega
      · decide
      · omega)
    have h2 : (parts_2 name on list num flag ty cols rules exprs).length = 4 := rfl
    omega
  refine implPut_seqPhrase 2 name on list num flag ty cols rules exprs a0 a1 a2 a3 c0 c1 c2 c3 w (by omega) writerAt_2 HOK (parts_2 name on list num flag ty cols rules exprs) (Lib.hid fun W hb => ?_) hJ r hr
  exact phSeq 2 name on list num flag ty cols rules exprs a0 a1 a2 a3 c0 c1 c2 c3 W [(ByteArray.mk #[99, 114, 101, 97, 116, 101, 32, 115, 101, 113, 117, 101, 110, 99, 101]), nameT name] (by simp) (by simp) HCS (dec num) (by omega) (Lib.hid fun W2 hb2 => implDecText num W2 (by omega) (by omega) (HT.out W2 (hb.trans (hb2.mono hb.size))).tabs.pow) (parts_2 name on list num flag ty cols rules exprs) rfl

set_option maxRecDepth 100000 in
set_option maxHeartbeats 4000000 in
theorem implPutK_3 (name on : ByteArray) (list : List ByteArray) (num : Int) (flag : Bool) (ty : Ty) (cols : List Co) (rules : List Ru) (exprs : List Ex) (a0 a1 a2 a3 : Option Addr) (c0 c1 c2 c3 : Nat) (w : World)  (HT : Hid (∀ W, Below w.heap.size w W → TabR W)) (HK : Hid (∀ w', Below w.heap.size w w' → Ss 0 w' a0 c0 list ∧ Sl 6 RCo 0 w' a1 c1 cols ∧ Sl 6 RRu 0 w' a2 c2 rules ∧ Ks 0 w' a3 c3 exprs)) (Zn : Hid (name.size ≤ 1048576)) (Zo : Hid (on.size ≤ 1048576)) (Zt : Hid (ty.name.size ≤ 1048576)) (Zl : Hid (lets list ≤ 1048576)) (Zc : Hid (∀ x ∈ cols, x.wt ≤ 1048576)) (Zr : Hid (∀ x ∈ rules, x.wt ≤ 1048576)) (Zx : Hid (∀ x ∈ exprs, x.wt ≤ 1048576)) (hty : i64E ty.kind) (HOK : Hid (∀ W, Below w.heap.size w W → Calls Tryz.prog 54 #[.agg #[.int .i64 3, .string name, .string on, .slice a0 list.length c0, .int .i64 num, .bool flag, .int .i64 ty.kind, .int .i64 ty.len, .string ty.name, .slice a1 cols.length c1, .slice a2 rules.length c2, .slice a3 exprs.length c3]] W fun e w' => e = .returned (.bool true) ∧ Below W.heap.size W w')) (qn : nmB name = true) (r : ByteArray) (hr : joinT (parts_3 name on list num flag ty cols rules exprs) (txt [32]) = r) :
    Calls Tryz.prog 19 #[.agg #[.int .i64 3, .string name, .string on, .slice a0 list.length c0, .int .i64 num, .bool flag, .int .i64 ty.kind, .int .i64 ty.len, .string ty.name, .slice a1 cols.length c1, .slice a2 rules.length c2, .slice a3 exprs.length c3]] w fun e w' => e = .returned (.string r) ∧ Below w.heap.size w w' := by
  have zN : (nameT name).size ≤ 82 := nameT_small qn
  have hs : startB 3 flag = (ByteArray.mk #[100, 114, 111, 112, 32, 115, 101, 113, 117, 101, 110, 99, 101]) := rfl
  have HCS := Lib.hid (fun W' => phStart 3 name on list num flag ty cols rules exprs a0 a1 a2 a3 c0 c1 c2 c3 W' (by omega) Zn (nameT name) (Lib.hid rfl) zN (ByteArray.mk #[100, 114, 111, 112, 32, 115, 101, 113, 117, 101, 110, 99, 101]) hs)
  have hJ : lets (parts_3 name on list num flag ty cols rules exprs) + (parts_3 name on list num flag ty cols rules exprs).length ≤ 1073741824 := by
    have h := lets_leq (parts_3 name on list num flag ty cols rules exprs) 100000000 (by
      show ∀ s ∈ [(ByteArray.mk #[100, 114, 111, 112, 32, 115, 101, 113, 117, 101, 110, 99, 101]), nameT name], s.size ≤ 100000000
      intro s hs
      simp only [List.mem_cons, List.not_mem_nil, or_false] at hs
      rcases hs with rfl | rfl
      · decide
      · omega)
    have h2 : (parts_3 name on list num flag ty cols rules exprs).length = 2 := rfl
    omega
  refine implPut_start 3 name on list num flag ty cols rules exprs a0 a1 a2 a3 c0 c1 c2 c3 w (by omega) writerAt_3 HOK (parts_3 name on list num flag ty cols rules exprs) (Lib.hid fun W hb => ?_) hJ r hr
  exact HCS.out W

set_option maxRecDepth 100000 in
set_option maxHeartbeats 4000000 in
theorem implPutK_4 (name on : ByteArray) (list : List ByteArray) (num : Int) (flag : Bool) (ty : Ty) (cols : List Co) (rules : List Ru) (exprs : List Ex) (a0 a1 a2 a3 : Option Addr) (c0 c1 c2 c3 : Nat) (w : World) (hcl : cols.length ≤ 12) (hrl : rules.length ≤ 8) (hca : ∀ x ∈ cols, colB x = true) (hra : ∀ x ∈ rules, ruleB x = true) (HT : Hid (∀ W, Below w.heap.size w W → TabR W)) (HK : Hid (∀ w', Below w.heap.size w w' → Ss 0 w' a0 c0 list ∧ Sl 6 RCo 0 w' a1 c1 cols ∧ Sl 6 RRu 0 w' a2 c2 rules ∧ Ks 0 w' a3 c3 exprs)) (Zn : Hid (name.size ≤ 1048576)) (Zo : Hid (on.size ≤ 1048576)) (Zt : Hid (ty.name.size ≤ 1048576)) (Zl : Hid (lets list ≤ 1048576)) (Zc : Hid (∀ x ∈ cols, x.wt ≤ 1048576)) (Zr : Hid (∀ x ∈ rules, x.wt ≤ 1048576)) (Zx : Hid (∀ x ∈ exprs, x.wt ≤ 1048576)) (hty : i64E ty.kind) (HOK : Hid (∀ W, Below w.heap.size w W → Calls Tryz.prog 54 #[.agg #[.int .i64 4, .string name, .string on, .slice a0 list.length c0, .int .i64 num, .bool flag, .int .i64 ty.kind, .int .i64 ty.len, .string ty.name, .slice a1 cols.length c1, .slice a2 rules.length c2, .slice a3 exprs.length c3]] W fun e w' => e = .returned (.bool true) ∧ Below W.heap.size W w')) (qn : nmB name = true) (r : ByteArray) (hr : joinT (parts_4 name on list num flag ty cols rules exprs) (txt [32]) = r) :
    Calls Tryz.prog 19 #[.agg #[.int .i64 4, .string name, .string on, .slice a0 list.length c0, .int .i64 num, .bool flag, .int .i64 ty.kind, .int .i64 ty.len, .string ty.name, .slice a1 cols.length c1, .slice a2 rules.length c2, .slice a3 exprs.length c3]] w fun e w' => e = .returned (.string r) ∧ Below w.heap.size w w' := by
  have zN : (nameT name).size ≤ 82 := nameT_small qn
  have hs : startB 4 flag = (ByteArray.mk #[99, 114, 101, 97, 116, 101, 32, 116, 97, 98, 108, 101]) := rfl
  have HCS := Lib.hid (fun W' => phStart 4 name on list num flag ty cols rules exprs a0 a1 a2 a3 c0 c1 c2 c3 W' (by omega) Zn (nameT name) (Lib.hid rfl) zN (ByteArray.mk #[99, 114, 101, 97, 116, 101, 32, 116, 97, 98, 108, 101]) hs)
  have sc : ∀ s ∈ cols.map colT, s.size ≤ 20000 := by
    intro t ht
    obtain ⟨u, hu, rfl⟩ := List.mem_map.1 ht
    have := colT_small (hca u hu)
    omega
  have sr : ∀ s ∈ rules.map ruleT, s.size ≤ 20000 := by
    intro t ht
    obtain ⟨u, hu, rfl⟩ := List.mem_map.1 ht
    exact ruleT_small (hra u hu)
  have sa : ∀ s ∈ cols.map colT ++ rules.map ruleT, s.size ≤ 20000 := by
    intro t ht
    rcases List.mem_append.1 ht with h | h
    · exact sc t h
    · exact sr t h
  have hLL := lets_leq (cols.map colT ++ rules.map ruleT) 20000 sa
  have hJl := joinT_le (cols.map colT ++ rules.map ruleT) 20000 sa
  rw [List.length_append, List.length_map, List.length_map] at hLL hJl
  have zT : (parT (cols.map colT ++ rules.map ruleT)).size ≤ 500000 := by
    unfold parT
    rw [ByteArray.size_append, ByteArray.size_append, show (txt [40]).size = 1 from rfl, show (txt [41]).size = 1 from rfl]
    omega
  have hJ : lets (parts_4 name on list num flag ty cols rules exprs) + (parts_4 name on list num flag ty cols rules exprs).length ≤ 1073741824 := by
    have h := lets_leq (parts_4 name on list num flag ty cols rules exprs) 100000000 (by
      show ∀ s ∈ [(ByteArray.mk #[99, 114, 101, 97, 116, 101, 32, 116, 97, 98, 108, 101]), nameT name, parT (cols.map colT ++ rules.map ruleT)], s.size ≤ 100000000
      intro s hs
      simp only [List.mem_cons, List.not_mem_nil, or_false] at hs
      rcases hs with rfl | rfl | rfl
      · decide
      · omega
      · omega)
    have h2 : (parts_4 name on list num flag ty cols rules exprs).length = 3 := rfl
    omega
  refine implPut_tablePhrase 4 name on list num flag ty cols rules exprs a0 a1 a2 a3 c0 c1 c2 c3 w (by omega) writerAt_4 HOK (parts_4 name on list num flag ty cols rules exprs) (Lib.hid fun W hb => ?_) hJ r hr
  exact phTable 4 name on list num flag ty cols rules exprs a0 a1 a2 a3 c0 c1 c2 c3 W [(ByteArray.mk #[99, 114, 101, 97, 116, 101, 32, 116, 97, 98, 108, 101]), nameT name] (by simp) (by simp) HCS (cols.map colT) (by rw [List.length_map]; omega) (Lib.hid fun W2 hb2 => (textsC a1 c1 cols W2 (HK.out W2 (hb.trans (hb2.mono hb.size))).2.1 (HT.out W2 (hb.trans (hb2.mono hb.size))).tabs Zc.out (by omega) (fun x hx => by have h1 : (colT x).size ≤ 20000 := sc _ (List.mem_map_of_mem hx); exact Nat.le_trans h1 (by decide))).mono (by rintro e w3 ⟨a4, c4, rfl, ho, hb3⟩; exact ⟨a4, c4, by rw [List.length_map], own_addr ho, ho.strs (fun s hs => by have h1 := sc s hs; unfold maxLen; omega), hb3⟩)) (rules.map ruleT) (by rw [List.length_map]; omega) (Lib.hid fun W2 hb2 => (textsU a2 c2 rules W2 (HK.out W2 (hb.trans (hb2.mono hb.size))).2.2.1 (HT.out W2 (hb.trans (hb2.mono hb.size))) Zr.out (by omega) (fun x hx => by have h1 : (ruleT x).size ≤ 20000 := sr _ (List.mem_map_of_mem hx); exact Nat.le_trans h1 (by decide))).mono (by rintro e w3 ⟨a4, c4, rfl, ho, hb3⟩; exact ⟨a4, c4, by rw [List.length_map], ho.strs (fun s hs => by have h1 := sr s hs; unfold maxLen; omega), hb3⟩)) ((cols.map colT) ++ (rules.map ruleT)) rfl (parT (cols.map colT ++ rules.map ruleT)) (by omega) (by rw [List.length_append, List.length_map, List.length_map]; omega) rfl (parts_4 name on list num flag ty cols rules exprs) rfl

set_option maxRecDepth 100000 in
set_option maxHeartbeats 4000000 in
theorem implPutK_5 (name on : ByteArray) (list : List ByteArray) (num : Int) (flag : Bool) (ty : Ty) (cols : List Co) (rules : List Ru) (exprs : List Ex) (a0 a1 a2 a3 : Option Addr) (c0 c1 c2 c3 : Nat) (w : World)  (HT : Hid (∀ W, Below w.heap.size w W → TabR W)) (HK : Hid (∀ w', Below w.heap.size w w' → Ss 0 w' a0 c0 list ∧ Sl 6 RCo 0 w' a1 c1 cols ∧ Sl 6 RRu 0 w' a2 c2 rules ∧ Ks 0 w' a3 c3 exprs)) (Zn : Hid (name.size ≤ 1048576)) (Zo : Hid (on.size ≤ 1048576)) (Zt : Hid (ty.name.size ≤ 1048576)) (Zl : Hid (lets list ≤ 1048576)) (Zc : Hid (∀ x ∈ cols, x.wt ≤ 1048576)) (Zr : Hid (∀ x ∈ rules, x.wt ≤ 1048576)) (Zx : Hid (∀ x ∈ exprs, x.wt ≤ 1048576)) (hty : i64E ty.kind) (HOK : Hid (∀ W, Below w.heap.size w W → Calls Tryz.prog 54 #[.agg #[.int .i64 5, .string name, .string on, .slice a0 list.length c0, .int .i64 num, .bool flag, .int .i64 ty.kind, .int .i64 ty.len, .string ty.name, .slice a1 cols.length c1, .slice a2 rules.length c2, .slice a3 exprs.length c3]] W fun e w' => e = .returned (.bool true) ∧ Below W.heap.size W w')) (qn : nmB name = true) (r : ByteArray) (hr : joinT (parts_5 name on list num flag ty cols rules exprs) (txt [32]) = r) :
    Calls Tryz.prog 19 #[.agg #[.int .i64 5, .string name, .string on, .slice a0 list.length c0, .int .i64 num, .bool flag, .int .i64 ty.kind, .int .i64 ty.len, .string ty.name, .slice a1 cols.length c1, .slice a2 rules.length c2, .slice a3 exprs.length c3]] w fun e w' => e = .returned (.string r) ∧ Below w.heap.size w w' := by
  have zN : (nameT name).size ≤ 82 := nameT_small qn
  have hs : startB 5 flag = (ByteArray.mk #[100, 114, 111, 112, 32, 116, 97, 98, 108, 101]) := rfl
  have HCS := Lib.hid (fun W' => phStart 5 name on list num flag ty cols rules exprs a0 a1 a2 a3 c0 c1 c2 c3 W' (by omega) Zn (nameT name) (Lib.hid rfl) zN (ByteArray.mk #[100, 114, 111, 112, 32, 116, 97, 98, 108, 101]) hs)
  have hJ : lets (parts_5 name on list num flag ty cols rules exprs) + (parts_5 name on list num flag ty cols rules exprs).length ≤ 1073741824 := by
    have h := lets_leq (parts_5 name on list num flag ty cols rules exprs) 100000000 (by
      show ∀ s ∈ [(ByteArray.mk #[100, 114, 111, 112, 32, 116, 97, 98, 108, 101]), nameT name], s.size ≤ 100000000
      intro s hs
      simp only [List.mem_cons, List.not_mem_nil, or_false] at hs
      rcases hs with rfl | rfl
      · decide
      · omega)
    have h2 : (parts_5 name on list num flag ty cols rules exprs).length = 2 := rfl
    omega
  refine implPut_start 5 name on list num flag ty cols rules exprs a0 a1 a2 a3 c0 c1 c2 c3 w (by omega) writerAt_5 HOK (parts_5 name on list num flag ty cols rules exprs) (Lib.hid fun W hb => ?_) hJ r hr
  exact HCS.out W

set_option maxRecDepth 100000 in
set_option maxHeartbeats 4000000 in
theorem implPutK_6 (name on : ByteArray) (list : List ByteArray) (num : Int) (flag : Bool) (ty : Ty) (cols : List Co) (rules : List Ru) (exprs : List Ex) (a0 a1 a2 a3 : Option Addr) (c0 c1 c2 c3 : Nat) (w : World) (e1 : Co) (h1 : cols = [e1]) (hok : colB e1 = true) (HT : Hid (∀ W, Below w.heap.size w W → TabR W)) (HK : Hid (∀ w', Below w.heap.size w w' → Ss 0 w' a0 c0 list ∧ Sl 6 RCo 0 w' a1 c1 cols ∧ Sl 6 RRu 0 w' a2 c2 rules ∧ Ks 0 w' a3 c3 exprs)) (Zn : Hid (name.size ≤ 1048576)) (Zo : Hid (on.size ≤ 1048576)) (Zt : Hid (ty.name.size ≤ 1048576)) (Zl : Hid (lets list ≤ 1048576)) (Zc : Hid (∀ x ∈ cols, x.wt ≤ 1048576)) (Zr : Hid (∀ x ∈ rules, x.wt ≤ 1048576)) (Zx : Hid (∀ x ∈ exprs, x.wt ≤ 1048576)) (hty : i64E ty.kind) (HOK : Hid (∀ W, Below w.heap.size w W → Calls Tryz.prog 54 #[.agg #[.int .i64 6, .string name, .string on, .slice a0 list.length c0, .int .i64 num, .bool flag, .int .i64 ty.kind, .int .i64 ty.len, .string ty.name, .slice a1 cols.length c1, .slice a2 rules.length c2, .slice a3 exprs.length c3]] W fun e w' => e = .returned (.bool true) ∧ Below W.heap.size W w')) (qn : nmB name = true) (r : ByteArray) (hr : joinT (parts_6 name on list num flag ty cols rules exprs) (txt [32]) = r) :
    Calls Tryz.prog 19 #[.agg #[.int .i64 6, .string name, .string on, .slice a0 list.length c0, .int .i64 num, .bool flag, .int .i64 ty.kind, .int .i64 ty.len, .string ty.name, .slice a1 cols.length c1, .slice a2 rules.length c2, .slice a3 exprs.length c3]] w fun e w' => e = .returned (.string r) ∧ Below w.heap.size w w' := by
  have zN : (nameT name).size ≤ 82 := nameT_small qn
  subst h1
  obtain ⟨b, off, vs, ha, hb0, hcs, hRR⟩ := (HK.out w (Below.refl _ _)).2.1.spot (i := 0) (by simp)
  subst ha
  simp only [List.getElem_cons_zero] at hcs hRR
  have HRR := Lib.hid hRR
  obtain ⟨p0, q0, rfl, _⟩ := hRR
  have hs : startB 6 flag = (ByteArray.mk #[97, 108, 116, 101, 114, 32, 116, 97, 98, 108, 101]) := rfl
  have HCS := Lib.hid (fun W' => phStart 6 name on list num flag ty [e1] rules exprs a0 (some ⟨b, off, none⟩) a2 a3 c0 c1 c2 c3 W' (by omega) Zn (nameT name) (Lib.hid rfl) zN (ByteArray.mk #[97, 108, 116, 101, 114, 32, 116, 97, 98, 108, 101]) hs)
  have hc0 : w.cell? ⟨b, off, none⟩ = some (.string e1.name) := by have := hcs 0 (by simp); simpa using this
  have hc1 : w.cell? ⟨b, off + 1, none⟩ = some (.int .i64 e1.ty.kind) := by have := hcs 1 (by simp); simpa using this
  have hc2 : w.cell? ⟨b, off + 2, none⟩ = some (.int .i64 e1.ty.len) := by have := hcs 2 (by simp); simpa using this
  have hc3 : w.cell? ⟨b, off + 3, none⟩ = some (.string e1.ty.name) := by have := hcs 3 (by simp); simpa using this
  have hc4 : w.cell? ⟨b, off + 4, none⟩ = some (.bool e1.notNull) := by have := hcs 4 (by simp); simpa using this
  have hc5 : w.cell? ⟨b, off + 5, none⟩ = some (.slice p0 e1.dflt.length q0) := by have := hcs 5 (by simp); simpa using this
  have zT : (colT e1).size ≤ 9000 := colT_small hok
  have hJ : lets (parts_6 name on list num flag ty [e1] rules exprs) + (parts_6 name on list num flag ty [e1] rules exprs).length ≤ 1073741824 := by
    have h := lets_leq (parts_6 name on list num flag ty [e1] rules exprs) 100000000 (by
      show ∀ s ∈ [(ByteArray.mk #[97, 108, 116, 101, 114, 32, 116, 97, 98, 108, 101]), nameT name, (ByteArray.mk #[97, 100, 100, 32, 99, 111, 108, 117, 109, 110]), colT e1], s.size ≤ 100000000
      intro s hs
      simp only [List.mem_cons, List.not_mem_nil, or_false] at hs
      rcases hs with rfl | rfl | rfl | rfl
      · decide
      · omega
      · decide
      · omega)
    have h2 : (parts_6 name on list num flag ty [e1] rules exprs).length = 4 := rfl
    omega
  refine implPut_addColPhrase 6 name on list num flag ty [e1] rules exprs a0 (some ⟨b, off, none⟩) a2 a3 c0 c1 c2 c3 w (by omega) writerAt_6 HOK (parts_6 name on list num flag ty [e1] rules exprs) (Lib.hid fun W hb => ?_) hJ r hr
  exact phAddCol 6 name on list num flag ty rules exprs a0 a2 a3 c0 c1 c2 c3 b off e1 p0 q0 W [(ByteArray.mk #[97, 108, 116, 101, 114, 32, 116, 97, 98, 108, 101]), nameT name] (by simp) (by simp) HCS (colT e1) (by omega) (Lib.hid fun W2 hb2 => implPutCol _ e1 W2 (HT.out W2 (hb.trans (hb2.mono hb.size))).tabs (goodCo.kept HRR.out (Kept.below (hb.trans (hb2.mono hb.size)))) (Zc.out e1 (by simp)) _ rfl) (parts_6 name on list num flag ty [e1] rules exprs) rfl (Lib.hid fun W2 hb2 => ⟨((hb.trans (hb2.mono hb.size)).cell (p := ⟨b, off, none⟩) hb0).trans hc0, ((hb.trans (hb2.mono hb.size)).cell (p := ⟨b, off + 1, none⟩) hb0).trans hc1, ((hb.trans (hb2.mono hb.size)).cell (p := ⟨b, off + 2, none⟩) hb0).trans hc2, ((hb.trans (hb2.mono hb.size)).cell (p := ⟨b, off + 3, none⟩) hb0).trans hc3, ((hb.trans (hb2.mono hb.size)).cell (p := ⟨b, off + 4, none⟩) hb0).trans hc4, ((hb.trans (hb2.mono hb.size)).cell (p := ⟨b, off + 5, none⟩) hb0).trans hc5⟩)

set_option maxRecDepth 100000 in
set_option maxHeartbeats 4000000 in
theorem implPutK_7 (name on : ByteArray) (list : List ByteArray) (num : Int) (flag : Bool) (ty : Ty) (cols : List Co) (rules : List Ru) (exprs : List Ex) (a0 a1 a2 a3 : Option Addr) (c0 c1 c2 c3 : Nat) (w : World) (qo : nmB on = true) (HT : Hid (∀ W, Below w.heap.size w W → TabR W)) (HK : Hid (∀ w', Below w.heap.size w w' → Ss 0 w' a0 c0 list ∧ Sl 6 RCo 0 w' a1 c1 cols ∧ Sl 6 RRu 0 w' a2 c2 rules ∧ Ks 0 w' a3 c3 exprs)) (Zn : Hid (name.size ≤ 1048576)) (Zo : Hid (on.size ≤ 1048576)) (Zt : Hid (ty.name.size ≤ 1048576)) (Zl : Hid (lets list ≤ 1048576)) (Zc : Hid (∀ x ∈ cols, x.wt ≤ 1048576)) (Zr : Hid (∀ x ∈ rules, x.wt ≤ 1048576)) (Zx : Hid (∀ x ∈ exprs, x.wt ≤ 1048576)) (hty : i64E ty.kind) (HOK : Hid (∀ W, Below w.heap.size w W → Calls Tryz.prog 54 #[.agg #[.int .i64 7, .string name, .string on, .slice a0 list.length c0, .int .i64 num, .bool flag, .int .i64 ty.kind, .int .i64 ty.len, .string ty.name, .slice a1 cols.length c1, .slice a2 rules.length c2, .slice a3 exprs.length c3]] W fun e w' => e = .returned (.bool true) ∧ Below W.heap.size W w')) (qn : nmB name = true) (r : ByteArray) (hr : joinT (parts_7 name on list num flag ty cols rules exprs) (txt [32]) = r) :
    Calls Tryz.prog 19 #[.agg #[.int .i64 7, .string name, .string on, .slice a0 list.length c0, .int .i64 num, .bool flag, .int .i64 ty.kind, .int .i64 ty.len, .string ty.name, .slice a1 cols.length c1, .slice a2 rules.length c2, .slice a3 exprs.length c3]] w fun e w' => e = .returned (.string r) ∧ Below w.heap.size w w' := by
  have zN : (nameT name).size ≤ 82 := nameT_small qn
  have zM : (nameT on).size ≤ 82 := nameT_small qo
  have hs : startB 7 flag = (ByteArray.mk #[97, 108, 116, 101, 114, 32, 116, 97, 98, 108, 101]) := rfl
  have HCS := Lib.hid (fun W' => phStart 7 name on list num flag ty cols rules exprs a0 a1 a2 a3 c0 c1 c2 c3 W' (by omega) Zn (nameT name) (Lib.hid rfl) zN (ByteArray.mk #[97, 108, 116, 101, 114, 32, 116, 97, 98, 108, 101]) hs)
  have hJ : lets (parts_7 name on list num flag ty cols rules exprs) + (parts_7 name on list num flag ty cols rules exprs).length ≤ 1073741824 := by
    have h := lets_leq (parts_7 name on list num flag ty cols rules exprs) 100000000 (by
      show ∀ s ∈ [(ByteArray.mk #[97, 108, 116, 101, 114, 32, 116, 97, 98, 108, 101]), nameT name, (ByteArray.mk #[100, 114, 111, 112, 32, 99, 111, 108, 117, 109, 110]), nameT on], s.size ≤ 100000000
      intro s hs
      simp only [List.mem_cons, List.not_mem_nil, or_false] at hs
      rcases hs with rfl | rfl | rfl | rfl
      · decide
      · omega
      · decide
      · omega)
    have h2 : (parts_7 name on list num flag ty cols rules exprs).length = 4 := rfl
    omega
  refine implPut_dropColPhrase 7 name on list num flag ty cols rules exprs a0 a1 a2 a3 c0 c1 c2 c3 w (by omega) writerAt_7 HOK (parts_7 name on list num flag ty cols rules exprs) (Lib.hid fun W hb => ?_) hJ r hr
  exact phDropCol 7 name on list num flag ty cols rules exprs a0 a1 a2 a3 c0 c1 c2 c3 W [(ByteArray.mk #[97, 108, 116, 101, 114, 32, 116, 97, 98, 108, 101]), nameT name] (by simp) (by simp) HCS (nameT on) (by omega) (Lib.hid fun W2 hb2 => implPutName on W2 Zo.out _ rfl) (parts_7 name on list num flag ty cols rules exprs) rfl

set_option maxRecDepth 100000 in
set_option maxHeartbeats 4000000 in
theorem implPutK_8 (name on : ByteArray) (list : List ByteArray) (num : Int) (flag : Bool) (ty : Ty) (cols : List Co) (rules : List Ru) (exprs : List Ex) (a0 a1 a2 a3 : Option Addr) (c0 c1 c2 c3 : Nat) (w : World) (qo : nmB on = true) (hok : tyB ty = true) (HT : Hid (∀ W, Below w.heap.size w W → TabR W)) (HK : Hid (∀ w', Below w.heap.size w w' → Ss 0 w' a0 c0 list ∧ Sl 6 RCo 0 w' a1 c1 cols ∧ Sl 6 RRu 0 w' a2 c2 rules ∧ Ks 0 w' a3 c3 exprs)) (Zn : Hid (name.size ≤ 1048576)) (Zo : Hid (on.size ≤ 1048576)) (Zt : Hid (ty.name.size ≤ 1048576)) (Zl : Hid (lets list ≤ 1048576)) (Zc : Hid (∀ x ∈ cols, x.wt ≤ 1048576)) (Zr : Hid (∀ x ∈ rules, x.wt ≤ 1048576)) (Zx : Hid (∀ x ∈ exprs, x.wt ≤ 1048576)) (hty : i64E ty.kind) (HOK : Hid (∀ W, Below w.heap.size w W → Calls Tryz.prog 54 #[.agg #[.int .i64 8, .string name, .string on, .slice a0 list.length c0, .int .i64 num, .bool flag, .int .i64 ty.kind, .int .i64 ty.len, .string ty.name, .slice a1 cols.length c1, .slice a2 rules.length c2, .slice a3 exprs.length c3]] W fun e w' => e = .returned (.bool true) ∧ Below W.heap.size W w')) (qn : nmB name = true) (r : ByteArray) (hr : joinT (parts_8 name on list num flag ty cols rules exprs) (txt [32]) = r) :
    Calls Tryz.prog 19 #[.agg #[.int .i64 8, .string name, .string on, .slice a0 list.length c0, .int .i64 num, .bool flag, .int .i64 ty.kind, .int .i64 ty.len, .string ty.name, .slice a1 cols.length c1, .slice a2 rules.length c2, .slice a3 exprs.length c3]] w fun e w' => e = .returned (.string r) ∧ Below w.heap.size w w' := by
  have zN : (nameT name).size ≤ 82 := nameT_small qn
  have zM : (nameT on).size ≤ 82 := nameT_small qo
  have hs : startB 8 flag = (ByteArray.mk #[97, 108, 116, 101, 114, 32, 116, 97, 98, 108, 101]) := rfl
  have HCS := Lib.hid (fun W' => phStart 8 name on list num flag ty cols rules exprs a0 a1 a2 a3 c0 c1 c2 c3 W' (by omega) Zn (nameT name) (Lib.hid rfl) zN (ByteArray.mk #[97, 108, 116, 101, 114, 32, 116, 97, 98, 108, 101]) hs)
  have HCC := Lib.hid (fun W' => phColStart 8 name on list num flag ty cols rules exprs a0 a1 a2 a3 c0 c1 c2 c3 W' (by omega) Zn Zo (nameT name) (nameT on) (Lib.hid rfl) (Lib.hid rfl) zN zM (ByteArray.mk #[97, 108, 116, 101, 114, 32, 116, 97, 98, 108, 101]) hs)
  have zT : (tyT ty).size ≤ 100 := tyT_small hok
  have hJ : lets (parts_8 name on list num flag ty cols rules exprs) + (parts_8 name on list num flag ty cols rules exprs).length ≤ 1073741824 := by
    have h := lets_leq (parts_8 name on list num flag ty cols rules exprs) 100000000 (by
      show ∀ s ∈ [(ByteArray.mk #[97, 108, 116, 101, 114, 32, 116, 97, 98, 108, 101]), nameT name, (ByteArray.mk #[97, 108, 116, 101, 114, 32, 99, 111, 108, 117, 109, 110]), nameT on, (ByteArray.mk #[116, 121, 112, 101]), tyT ty], s.size ≤ 100000000
      intro s hs
      simp only [List.mem_cons, List.not_mem_nil, or_false] at hs
      rcases hs with rfl | rfl | rfl | rfl | rfl | rfl
      · decide
      · omega
      · decide
      · omega
      · decide
      · omega)
    have h2 : (parts_8 name on list num flag ty cols rules exprs).length = 6 := rfl
    omega
  refine implPut_colTypePhrase 8 name on list num flag ty cols rules exprs a0 a1 a2 a3 c0 c1 c2 c3 w (by omega) writerAt_8 HOK (parts_8 name on list num flag ty cols rules exprs) (Lib.hid fun W hb => ?_) hJ r hr
  exact phColType 8 name on list num flag ty cols rules exprs a0 a1 a2 a3 c0 c1 c2 c3 W [(ByteArray.mk #[97, 108, 116, 101, 114, 32, 116, 97, 98, 108, 101]), nameT name, (ByteArray.mk #[97, 108, 116, 101, 114, 32, 99, 111, 108, 117, 109, 110]), nameT on] (by simp) (by simp) HCC (tyT ty) (by omega) (Lib.hid fun W2 hb2 => implTypeTextC ty W2 Zt.out (i64_wf hty) (HT.out W2 (hb.trans (hb2.mono hb.size))).tabs _ rfl) (parts_8 name on list num flag ty cols rules exprs) rfl

set_option maxRecDepth 100000 in
set_option maxHeartbeats 4000000 in
theorem implPutK_9 (name on : ByteArray) (list : List ByteArray) (num : Int) (flag : Bool) (ty : Ty) (cols : List Co) (rules : List Ru) (exprs : List Ex) (a0 a1 a2 a3 : Option Addr) (c0 c1 c2 c3 : Nat) (w : World) (qo : nmB on = true) (HT : Hid (∀ W, Below w.heap.size w W → TabR W)) (HK : Hid (∀ w', Below w.heap.size w w' → Ss 0 w' a0 c0 list ∧ Sl 6 RCo 0 w' a1 c1 cols ∧ Sl 6 RRu 0 w' a2 c2 rules ∧ Ks 0 w' a3 c3 exprs)) (Zn : Hid (name.size ≤ 1048576)) (Zo : Hid (on.size ≤ 1048576)) (Zt : Hid (ty.name.size ≤ 1048576)) (Zl : Hid (lets list ≤ 1048576)) (Zc : Hid (∀ x ∈ cols, x.wt ≤ 1048576)) (Zr : Hid (∀ x ∈ rules, x.wt ≤ 1048576)) (Zx : Hid (∀ x ∈ exprs, x.wt ≤ 1048576)) (hty : i64E ty.kind) (HOK : Hid (∀ W, Below w.heap.size w W → Calls Tryz.prog 54 #[.agg #[.int .i64 9, .string name, .string on, .slice a0 list.length c0, .int .i64 num, .bool flag, .int .i64 ty.kind, .int .i64 ty.len, .string ty.name, .slice a1 cols.length c1, .slice a2 rules.length c2, .slice a3 exprs.length c3]] W fun e w' => e = .returned (.bool true) ∧ Below W.heap.size W w')) (qn : nmB name = true) (r : ByteArray) (hr : joinT (parts_9 name on list num flag ty cols rules exprs) (txt [32]) = r) :
    Calls Tryz.prog 19 #[.agg #[.int .i64 9, .string name, .string on, .slice a0 list.length c0, .int .i64 num, .bool flag, .int .i64 ty.kind, .int .i64 ty.len, .string ty.name, .slice a1 cols.length c1, .slice a2 rules.length c2, .slice a3 exprs.length c3]] w fun e w' => e = .returned (.string r) ∧ Below w.heap.size w w' := by
  have zN : (nameT name).size ≤ 82 := nameT_small qn
  have zM : (nameT on).size ≤ 82 := nameT_small qo
  have hs : startB 9 flag = (ByteArray.mk #[97, 108, 116, 101, 114, 32, 116, 97, 98, 108, 101]) := rfl
  have HCS := Lib.hid (fun W' => phStart 9 name on list num flag ty cols rules exprs a0 a1 a2 a3 c0 c1 c2 c3 W' (by omega) Zn (nameT name) (Lib.hid rfl) zN (ByteArray.mk #[97, 108, 116, 101, 114, 32, 116, 97, 98, 108, 101]) hs)
  have HCC := Lib.hid (fun W' => phColStart 9 name on list num flag ty cols rules exprs a0 a1 a2 a3 c0 c1 c2 c3 W' (by omega) Zn Zo (nameT name) (nameT on) (Lib.hid rfl) (Lib.hid rfl) zN zM (ByteArray.mk #[97, 108, 116, 101, 114, 32, 116, 97, 98, 108, 101]) hs)
  cases flag with
  | true =>
    have hJ : lets (parts_9 name on list num true ty cols rules exprs) + (parts_9 name on list num true ty cols rules exprs).length ≤ 1073741824 := by
      have h := lets_leq (parts_9 name on list num true ty cols rules exprs) 100000000 (by
        show ∀ s ∈ [(ByteArray.mk #[97, 108, 116, 101, 114, 32, 116, 97, 98, 108, 101]), nameT name, (ByteArray.mk #[97, 108, 116, 101, 114, 32, 99, 111, 108, 117, 109, 110]), nameT on, (ByteArray.mk #[115, 101, 116, 32, 110, 111, 116, 32, 110, 117, 108, 108])], s.size ≤ 100000000
        intro s hs
        simp only [List.mem_cons, List.not_mem_nil, or_false] at hs
        rcases hs with rfl | rfl | rfl | rfl | rfl
        · decide
        · omega
        · decide
        · omega
        · decide)
      have h2 : (parts_9 name on list num true ty cols rules exprs).length = 5 := rfl
      omega
    refine implPut_colNullPhrase 9 name on list num true ty cols rules exprs a0 a1 a2 a3 c0 c1 c2 c3 w (by omega) writerAt_9 HOK (parts_9 name on list num true ty cols rules exprs) (Lib.hid fun W hb => ?_) hJ r hr
    exact phNullT 9 name on list num ty cols rules exprs a0 a1 a2 a3 c0 c1 c2 c3 W [(ByteArray.mk #[97, 108, 116, 101, 114, 32, 116, 97, 98, 108, 101]), nameT name, (ByteArray.mk #[97, 108, 116, 101, 114, 32, 99, 111, 108, 117, 109, 110]), nameT on] (by simp) (by simp) HCC (parts_9 name on list num true ty cols rules exprs) rfl
  | false =>
    have hJ : lets (parts_9 name on list num false ty cols rules exprs) + (parts_9 name on list num false ty cols rules exprs).length ≤ 1073741824 := by
      have h := lets_leq (parts_9 name on list num false ty cols rules exprs) 100000000 (by
        show ∀ s ∈ [(ByteArray.mk #[97, 108, 116, 101, 114, 32, 116, 97, 98, 108, 101]), nameT name, (ByteArray.mk #[97, 108, 116, 101, 114, 32, 99, 111, 108, 117, 109, 110]), nameT on, (ByteArray.mk #[100, 114, 111, 112, 32, 110, 111, 116, 32, 110, 117, 108, 108])], s.size ≤ 100000000
        intro s hs
        simp only [List.mem_cons, List.not_mem_nil, or_false] at hs
        rcases hs with rfl | rfl | rfl | rfl | rfl
        · decide
        · omega
        · decide
        · omega
        · decide)
      have h2 : (parts_9 name on list num false ty cols rules exprs).length = 5 := rfl
      omega
    refine implPut_colNullPhrase 9 name on list num false ty cols rules exprs a0 a1 a2 a3 c0 c1 c2 c3 w (by omega) writerAt_9 HOK (parts_9 name on list num false ty cols rules exprs) (Lib.hid fun W hb => ?_) hJ r hr
    exact phNullF 9 name on list num ty cols rules exprs a0 a1 a2 a3 c0 c1 c2 c3 W [(ByteArray.mk #[97, 108, 116, 101, 114, 32, 116, 97, 98, 108, 101]), nameT name, (ByteArray.mk #[97, 108, 116, 101, 114, 32, 99, 111, 108, 117, 109, 110]), nameT on] (by simp) (by simp) HCC (parts_9 name on list num false ty cols rules exprs) rfl

set_option maxRecDepth 100000 in
set_option maxHeartbeats 4000000 in
theorem implPutK_10 (name on : ByteArray) (list : List ByteArray) (num : Int) (flag : Bool) (ty : Ty) (cols : List Co) (rules : List Ru) (exprs : List Ex) (a0 a1 a2 a3 : Option Addr) (c0 c1 c2 c3 : Nat) (w : World) (qo : nmB on = true) (hel : exprs.length ≤ 1) (hxa : ∀ x ∈ exprs, okX x = true) (HT : Hid (∀ W, Below w.heap.size w W → TabR W)) (HK : Hid (∀ w', Below w.heap.size w w' → Ss 0 w' a0 c0 list ∧ Sl 6 RCo 0 w' a1 c1 cols ∧ Sl 6 RRu 0 w' a2 c2 rules ∧ Ks 0 w' a3 c3 exprs)) (Zn : Hid (name.size ≤ 1048576)) (Zo : Hid (on.size ≤ 1048576)) (Zt : Hid (ty.name.size ≤ 1048576)) (Zl : Hid (lets list ≤ 1048576)) (Zc : Hid (∀ x ∈ cols, x.wt ≤ 1048576)) (Zr : Hid (∀ x ∈ rules, x.wt ≤ 1048576)) (Zx : Hid (∀ x ∈ exprs, x.wt ≤ 1048576)) (hty : i64E ty.kind) (HOK : Hid (∀ W, Below w.heap.size w W → Calls Tryz.prog 54 #[.agg #[.int .i64 10, .string name, .string on, .slice a0 list.length c0, .int .i64 num, .bool flag, .int .i64 ty.kind, .int .i64 ty.len, .string ty.name, .slice a1 cols.length c1, .slice a2 rules.length c2, .slice a3 exprs.length c3]] W fun e w' => e = .returned (.bool true) ∧ Below W.heap.size W w')) (qn : nmB name = true) (r : ByteArray) (hr : joinT (parts_10 name on list num flag ty cols rules exprs) (txt [32]) = r) :
    Calls Tryz.prog 19 #[.agg #[.int .i64 10, .string name, .string on, .slice a0 list.length c0, .int .i64 num, .bool flag, .int .i64 ty.kind, .int .i64 ty.len, .string ty.name, .slice a1 cols.length c1, .slice a2 rules.length c2, .slice a3 exprs.length c3]] w fun e w' => e = .returned (.string r) ∧ Below w.heap.size w w' := by
  have zN : (nameT name).size ≤ 82 := nameT_small qn
  have zM : (nameT on).size ≤ 82 := nameT_small qo
  have hs : startB 10 flag = (ByteArray.mk #[97, 108, 116, 101, 114, 32, 116, 97, 98, 108, 101]) := rfl
  have HCS := Lib.hid (fun W' => phStart 10 name on list num flag ty cols rules exprs a0 a1 a2 a3 c0 c1 c2 c3 W' (by omega) Zn (nameT name) (Lib.hid rfl) zN (ByteArray.mk #[97, 108, 116, 101, 114, 32, 116, 97, 98, 108, 101]) hs)
  have HCC := Lib.hid (fun W' => phColStart 10 name on list num flag ty cols rules exprs a0 a1 a2 a3 c0 c1 c2 c3 W' (by omega) Zn Zo (nameT name) (nameT on) (Lib.hid rfl) (Lib.hid rfl) zN zM (ByteArray.mk #[97, 108, 116, 101, 114, 32, 116, 97, 98, 108, 101]) hs)
  by_cases hx0 : exprs = []
  · subst hx0
    have hJ : lets (parts_10 name on list num flag ty cols rules []) + (parts_10 name on list num flag ty cols rules []).length ≤ 1073741824 := by
      have h := lets_leq (parts_10 name on list num flag ty cols rules []) 100000000 (by
        show ∀ s ∈ [(ByteArray.mk #[97, 108, 116, 101, 114, 32, 116, 97, 98, 108, 101]), nameT name, (ByteArray.mk #[97, 108, 116, 101, 114, 32, 99, 111, 108, 117, 109, 110]), nameT on, (ByteArray.mk #[100, 114, 111, 112, 32, 100, 101, 102, 97, 117, 108, 116])], s.size ≤ 100000000
        intro s hs
        simp only [List.mem_cons, List.not_mem_nil, or_false] at hs
        rcases hs with rfl | rfl | rfl | rfl | rfl
        · decide
        · omega
        · decide
        · omega
        · decide)
      have h2 : (parts_10 name on list num flag ty cols rules []).length = 5 := rfl
      omega
    refine implPut_colDefaultPhrase 10 name on list num flag ty cols rules [] a0 a1 a2 a3 c0 c1 c2 c3 w (by omega) writerAt_10 HOK (parts_10 name on list num flag ty cols rules []) (Lib.hid fun W hb => ?_) hJ r hr
    exact phDfltN 10 name on list num flag ty cols rules a0 a1 a2 a3 c0 c1 c2 c3 W [(ByteArray.mk #[97, 108, 116, 101, 114, 32, 116, 97, 98, 108, 101]), nameT name, (ByteArray.mk #[97, 108, 116, 101, 114, 32, 99, 111, 108, 117, 109, 110]), nameT on] (by simp) (by simp) HCC (parts_10 name on list num flag ty cols rules []) rfl
  · have hp : 0 < exprs.length := List.length_pos_iff.2 hx0
    obtain ⟨e1, h1⟩ := List.length_eq_one_iff.1 (show exprs.length = 1 by omega)
    clear hp hx0
    subst h1
    have hok := hxa e1 (by simp)
    obtain ⟨d, hsl⟩ := (HK.out w (Below.refl _ _)).2.2.2.sl
    obtain ⟨b, off, vs, ha, hb0, hcs, hRR⟩ := hsl.spot (i := 0) (by simp)
    subst ha
    simp only [List.getElem_cons_zero] at hcs hRR
    have HRR := Lib.hid hRR
    obtain ⟨p0, q0, rfl, _⟩ := hRR
    have hc0 : w.cell? ⟨b, off, none⟩ = some (.int .i64 e1.kind) := by have := hcs 0 (by simp); simpa using this
    have hc1 : w.cell? ⟨b, off + 1, none⟩ = some (.string e1.text) := by have := hcs 1 (by simp); simpa using this
    have hc2 : w.cell? ⟨b, off + 2, none⟩ = some (.int .i64 e1.num) := by have := hcs 2 (by simp); simpa using this
    have hc3 : w.cell? ⟨b, off + 3, none⟩ = some (.slice p0 e1.kids.length q0) := by have := hcs 3 (by simp); simpa using this
    have zT : (putT e1).size ≤ 8400 := putT_small hok
    have hwe := Zx.out e1 (by simp)
    have hJ : lets (parts_10 name on list num flag ty cols rules [e1]) + (parts_10 name on list num flag ty cols rules [e1]).length ≤ 1073741824 := by
      have h := lets_leq (parts_10 name on list num flag ty cols rules [e1]) 100000000 (by
        show ∀ s ∈ [(ByteArray.mk #[97, 108, 116, 101, 114, 32, 116, 97, 98, 108, 101]), nameT name, (ByteArray.mk #[97, 108, 116, 101, 114, 32, 99, 111, 108, 117, 109, 110]), nameT on, (ByteArray.mk #[115, 101, 116, 32, 100, 101, 102, 97, 117, 108, 116]), putT e1], s.size ≤ 100000000
        intro s hs
        simp only [List.mem_cons, List.not_mem_nil, or_false] at hs
        rcases hs with rfl | rfl | rfl | rfl | rfl | rfl
        · decide
        · omega
        · decide
        · omega
        · decide
        · omega)
      have h2 : (parts_10 name on list num flag ty cols rules [e1]).length = 6 := rfl
      omega
    refine implPut_colDefaultPhrase 10 name on list num flag ty cols rules [e1] a0 a1 a2 (some ⟨b, off, none⟩) c0 c1 c2 c3 w (by omega) writerAt_10 HOK (parts_10 name on list num flag ty cols rules [e1]) (Lib.hid fun W hb => ?_) hJ r hr
    exact phDfltE 10 name on list num flag ty cols rules a0 a1 a2 c0 c1 c2 c3 b off e1 p0 q0 W [(ByteArray.mk #[97, 108, 116, 101, 114, 32, 116, 97, 98, 108, 101]), nameT name, (ByteArray.mk #[97, 108, 116, 101, 114, 32, 99, 111, 108, 117, 109, 110]), nameT on] (by simp) (by simp) HCC (putT e1) (by omega) (Lib.hid fun W2 hb2 => by obtain ⟨pa, pc, hve, hfite, hkk⟩ := (goodRE d).kept HRR.out (Kept.below (hb.trans (hb2.mono hb.size))); cases hve; exact implPutExpr e1 _ _ d W2 (HT.out W2 (hb.trans (hb2.mono hb.size))).tabs hfite hkk.at (by have := nodes_wt e1; omega) _ rfl) (parts_10 name on list num flag ty cols rules [e1]) rfl (Lib.hid fun W2 hb2 => ⟨((hb.trans (hb2.mono hb.size)).cell (p := ⟨b, off, none⟩) hb0).trans hc0, ((hb.trans (hb2.mono hb.size)).cell (p := ⟨b, off + 1, none⟩) hb0).trans hc1, ((hb.trans (hb2.mono hb.size)).cell (p := ⟨b, off + 2, none⟩) hb0).trans hc2, ((hb.trans (hb2.mono hb.size)).cell (p := ⟨b, off + 3, none⟩) hb0).trans hc3⟩)

set_option maxRecDepth 100000 in
set_option maxHeartbeats 4000000 in
theorem implPutK_11 (name on : ByteArray) (list : List ByteArray) (num : Int) (flag : Bool) (ty : Ty) (cols : List Co) (rules : List Ru) (exprs : List Ex) (a0 a1 a2 a3 : Option Addr) (c0 c1 c2 c3 : Nat) (w : World) (e1 : Ru) (h1 : rules = [e1]) (hok : ruleB e1 = true) (HT : Hid (∀ W, Below w.heap.size w W → TabR W)) (HK : Hid (∀ w', Below w.heap.size w w' → Ss 0 w' a0 c0 list ∧ Sl 6 RCo 0 w' a1 c1 cols ∧ Sl 6 RRu 0 w' a2 c2 rules ∧ Ks 0 w' a3 c3 exprs)) (Zn : Hid (name.size ≤ 1048576)) (Zo : Hid (on.size ≤ 1048576)) (Zt : Hid (ty.name.size ≤ 1048576)) (Zl : Hid (lets list ≤ 1048576)) (Zc : Hid (∀ x ∈ cols, x.wt ≤ 1048576)) (Zr : Hid (∀ x ∈ rules, x.wt ≤ 1048576)) (Zx : Hid (∀ x ∈ exprs, x.wt ≤ 1048576)) (hty : i64E ty.kind) (HOK : Hid (∀ W, Below w.heap.size w W → Calls Tryz.prog 54 #[.agg #[.int .i64 11, .string name, .string on, .slice a0 list.length c0, .int .i64 num, .bool flag, .int .i64 ty.kind, .int .i64 ty.len, .string ty.name, .slice a1 cols.length c1, .slice a2 rules.length c2, .slice a3 exprs.length c3]] W fun e w' => e = .returned (.bool true) ∧ Below W.heap.size W w')) (qn : nmB name = true) (r : ByteArray) (hr : joinT (parts_11 name on list num flag ty cols rules exprs) (txt [32]) = r) :
    Calls Tryz.prog 19 #[.agg #[.int .i64 11, .string name, .string on, .slice a0 list.length c0, .int .i64 num, .bool flag, .int .i64 ty.kind, .int .i64 ty.len, .string ty.name, .slice a1 cols.length c1, .slice a2 rules.length c2, .slice a3 exprs.length c3]] w fun e w' => e = .returned (.string r) ∧ Below w.heap.size w w' := by
  have zN : (nameT name).size ≤ 82 := nameT_small qn
  subst h1
  obtain ⟨b, off, vs, ha, hb0, hcs, hRR⟩ := (HK.out w (Below.refl _ _)).2.2.1.spot (i := 0) (by simp)
  subst ha
  simp only [List.getElem_cons_zero] at hcs hRR
  have HRR := Lib.hid hRR
  obtain ⟨p0, q0, p1, q1, p2, q2, rfl, _⟩ := hRR
  have hs : startB 11 flag = (ByteArray.mk #[97, 108, 116, 101, 114, 32, 116, 97, 98, 108, 101]) := rfl
  have HCS := Lib.hid (fun W' => phStart 11 name on list num flag ty cols [e1] exprs a0 a1 (some ⟨b, off, none⟩) a3 c0 c1 c2 c3 W' (by omega) Zn (nameT name) (Lib.hid rfl) zN (ByteArray.mk #[97, 108, 116, 101, 114, 32, 116, 97, 98, 108, 101]) hs)
  have hc0 : w.cell? ⟨b, off, none⟩ = some (.string e1.name) := by have := hcs 0 (by simp); simpa using this
  have hc1 : w.cell? ⟨b, off + 1, none⟩ = some (.int .i64 e1.kind) := by have := hcs 1 (by simp); simpa using this
  have hc2 : w.cell? ⟨b, off + 2, none⟩ = some (.slice p0 e1.cols.length q0) := by have := hcs 2 (by simp); simpa using this
  have hc3 : w.cell? ⟨b, off + 3, none⟩ = some (.slice p1 e1.expr.length q1) := by have := hcs 3 (by simp); simpa using this
  have hc4 : w.cell? ⟨b, off + 4, none⟩ = some (.string e1.table) := by have := hcs 4 (by simp); simpa using this
  have hc5 : w.cell? ⟨b, off + 5, none⟩ = some (.slice p2 e1.to.length q2) := by have := hcs 5 (by simp); simpa using this
  have zT : (ruleT e1).size ≤ 20000 := ruleT_small hok
  have hJ : lets (parts_11 name on list num flag ty cols [e1] exprs) + (parts_11 name on list num flag ty cols [e1] exprs).length ≤ 1073741824 := by
    have h := lets_leq (parts_11 name on list num flag ty cols [e1] exprs) 100000000 (by
      show ∀ s ∈ [(ByteArray.mk #[97, 108, 116, 101, 114, 32, 116, 97, 98, 108, 101]), nameT name, (ByteArray.mk #[97, 100, 100]), ruleT e1], s.size ≤ 100000000
      intro s hs
      simp only [List.mem_cons, List.not_mem_nil, or_false] at hs
      rcases hs with rfl | rfl | rfl | rfl
      · decide
      · omega
      · decide
      · omega)
    have h2 : (parts_11 name on list num flag ty cols [e1] exprs).length = 4 := rfl
    omega
  refine implPut_addRulePhrase 11 name on list num flag ty cols [e1] exprs a0 a1 (some ⟨b, off, none⟩) a3 c0 c1 c2 c3 w (by omega) writerAt_11 HOK (parts_11 name on list num flag ty cols [e1] exprs) (Lib.hid fun W hb => ?_) hJ r hr
  exact phAddRule 11 name on list num flag ty cols exprs a0 a1 a3 c0 c1 c2 c3 b off e1 p0 p1 p2 q0 q1 q2 W [(ByteArray.mk #[97, 108, 116, 101, 114, 32, 116, 97, 98, 108, 101]), nameT name] (by simp) (by simp) HCS (ruleT e1) (by omega) (Lib.hid fun W2 hb2 => implPutRule _ e1 W2 (HT.out W2 (hb.trans (hb2.mono hb.size))) (goodRu.kept HRR.out (Kept.below (hb.trans (hb2.mono hb.size)))) (Zr.out e1 (by simp)) _ rfl) (parts_11 name on list num flag ty cols [e1] exprs) rfl (Lib.hid fun W2 hb2 => ⟨((hb.trans (hb2.mono hb.size)).cell (p := ⟨b, off, none⟩) hb0).trans hc0, ((hb.trans (hb2.mono hb.size)).cell (p := ⟨b, off + 1, none⟩) hb0).trans hc1, ((hb.trans (hb2.mono hb.size)).cell (p := ⟨b, off + 2, none⟩) hb0).trans hc2, ((hb.trans (hb2.mono hb.size)).cell (p := ⟨b, off + 3, none⟩) hb0).trans hc3, ((hb.trans (hb2.mono hb.size)).cell (p := ⟨b, off + 4, none⟩) hb0).trans hc4, ((hb.trans (hb2.mono hb.size)).cell (p := ⟨b, off + 5, none⟩) hb0).trans hc5⟩)

set_option maxRecDepth 100000 in
set_option maxHeartbeats 4000000 in
theorem implPutK_12 (name on : ByteArray) (list : List ByteArray) (num : Int) (flag : Bool) (ty : Ty) (cols : List Co) (rules : List Ru) (exprs : List Ex) (a0 a1 a2 a3 : Option Addr) (c0 c1 c2 c3 : Nat) (w : World) (qo : nmB on = true) (HT : Hid (∀ W, Below w.heap.size w W → TabR W)) (HK : Hid (∀ w', Below w.heap.size w w' → Ss 0 w' a0 c0 list ∧ Sl 6 RCo 0 w' a1 c1 cols ∧ Sl 6 RRu 0 w' a2 c2 rules ∧ Ks 0 w' a3 c3 exprs)) (Zn : Hid (name.size ≤ 1048576)) (Zo : Hid (on.size ≤ 1048576)) (Zt : Hid (ty.name.size ≤ 1048576)) (Zl : Hid (lets list ≤ 1048576)) (Zc : Hid (∀ x ∈ cols, x.wt ≤ 1048576)) (Zr : Hid (∀ x ∈ rules, x.wt ≤ 1048576)) (Zx : Hid (∀ x ∈ exprs, x.wt ≤ 1048576)) (hty : i64E ty.kind) (HOK : Hid (∀ W, Below w.heap.size w W → Calls Tryz.prog 54 #[.agg #[.int .i64 12, .string name, .string on, .slice a0 list.length c0, .int .i64 num, .bool flag, .int .i64 ty.kind, .int .i64 ty.len, .string ty.name, .slice a1 cols.length c1, .slice a2 rules.length c2, .slice a3 exprs.length c3]] W fun e w' => e = .returned (.bool true) ∧ Below W.heap.size W w')) (qn : nmB name = true) (r : ByteArray) (hr : joinT (parts_12 name on list num flag ty cols rules exprs) (txt [32]) = r) :
    Calls Tryz.prog 19 #[.agg #[.int .i64 12, .string name, .string on, .slice a0 list.length c0, .int .i64 num, .bool flag, .int .i64 ty.kind, .int .i64 ty.len, .string ty.name, .slice a1 cols.length c1, .slice a2 rules.length c2, .slice a3 exprs.length c3]] w fun e w' => e = .returned (.string r) ∧ Below w.heap.size w w' := by
  have zN : (nameT name).size ≤ 82 := nameT_small qn
  have zM : (nameT on).size ≤ 82 := nameT_small qo
  have hs : startB 12 flag = (ByteArray.mk #[97, 108, 116, 101, 114, 32, 116, 97, 98, 108, 101]) := rfl
  have HCS := Lib.hid (fun W' => phStart 12 name on list num flag ty cols rules exprs a0 a1 a2 a3 c0 c1 c2 c3 W' (by omega) Zn (nameT name) (Lib.hid rfl) zN (ByteArray.mk #[97, 108, 116, 101, 114, 32, 116, 97, 98, 108, 101]) hs)
  have hJ : lets (parts_12 name on list num flag ty cols rules exprs) + (parts_12 name on list num flag ty cols rules exprs).length ≤ 1073741824 := by
    have h := lets_leq (parts_12 name on list num flag ty cols rules exprs) 100000000 (by
      show ∀ s ∈ [(ByteArray.mk #[97, 108, 116, 101, 114, 32, 116, 97, 98, 108, 101]), nameT name, (ByteArray.mk #[100, 114, 111, 112, 32, 99, 111, 110, 115, 116, 114, 97, 105, 110, 116]), nameT on], s.size ≤ 100000000
      intro s hs
      simp only [List.mem_cons, List.not_mem_nil, or_false] at hs
      rcases hs with rfl | rfl | rfl | rfl
      · decide
      · omega
      · decide
      · omega)
    have h2 : (parts_12 name on list num flag ty cols rules exprs).length = 4 := rfl
    omega
  refine implPut_dropRulePhrase 12 name on list num flag ty cols rules exprs a0 a1 a2 a3 c0 c1 c2 c3 w (by omega) writerAt_12 HOK (parts_12 name on list num flag ty cols rules exprs) (Lib.hid fun W hb => ?_) hJ r hr
  exact phDropRule 12 name on list num flag ty cols rules exprs a0 a1 a2 a3 c0 c1 c2 c3 W [(ByteArray.mk #[97, 108, 116, 101, 114, 32, 116, 97, 98, 108, 101]), nameT name] (by simp) (by simp) HCS (nameT on) (by omega) (Lib.hid fun W2 hb2 => implPutName on W2 Zo.out _ rfl) (parts_12 name on list num flag ty cols rules exprs) rfl

set_option maxRecDepth 100000 in
set_option maxHeartbeats 4000000 in
theorem implPutK_13 (name on : ByteArray) (list : List ByteArray) (num : Int) (flag : Bool) (ty : Ty) (cols : List Co) (rules : List Ru) (exprs : List Ex) (a0 a1 a2 a3 : Option Addr) (c0 c1 c2 c3 : Nat) (w : World) (qo : nmB on = true) (hl : namesB list 12 = true) (HT : Hid (∀ W, Below w.heap.size w W → TabR W)) (HK : Hid (∀ w', Below w.heap.size w w' → Ss 0 w' a0 c0 list ∧ Sl 6 RCo 0 w' a1 c1 cols ∧ Sl 6 RRu 0 w' a2 c2 rules ∧ Ks 0 w' a3 c3 exprs)) (Zn : Hid (name.size ≤ 1048576)) (Zo : Hid (on.size ≤ 1048576)) (Zt : Hid (ty.name.size ≤ 1048576)) (Zl : Hid (lets list ≤ 1048576)) (Zc : Hid (∀ x ∈ cols, x.wt ≤ 1048576)) (Zr : Hid (∀ x ∈ rules, x.wt ≤ 1048576)) (Zx : Hid (∀ x ∈ exprs, x.wt ≤ 1048576)) (hty : i64E ty.kind) (HOK : Hid (∀ W, Below w.heap.size w W → Calls Tryz.prog 54 #[.agg #[.int .i64 13, .string name, .string on, .slice a0 list.length c0, .int .i64 num, .bool flag, .int .i64 ty.kind, .int .i64 ty.len, .string ty.name, .slice a1 cols.length c1, .slice a2 rules.length c2, .slice a3 exprs.length c3]] W fun e w' => e = .returned (.bool true) ∧ Below W.heap.size W w')) (qn : nmB name = true) (r : ByteArray) (hr : joinT (parts_13 name on list num flag ty cols rules exprs) (txt [32]) = r) :
    Calls Tryz.prog 19 #[.agg #[.int .i64 13, .string name, .string on, .slice a0 list.length c0, .int .i64 num, .bool flag, .int .i64 ty.kind, .int .i64 ty.len, .string ty.name, .slice a1 cols.length c1, .slice a2 rules.length c2, .slice a3 exprs.length c3]] w fun e w' => e = .returned (.string r) ∧ Below w.heap.size w w' := by
  have zN : (nameT name).size ≤ 82 := nameT_small qn
  have zM : (nameT on).size ≤ 82 := nameT_small qo
  have hs : startB 13 flag = (if flag = true then (ByteArray.mk #[99, 114, 101, 97, 116, 101, 32, 117, 110, 105, 113, 117, 101, 32, 105, 110, 100, 101, 120]) else (ByteArray.mk #[99, 114, 101, 97, 116, 101, 32, 105, 110, 100, 101, 120])) := by cases flag <;> rfl
  have HCS := Lib.hid (fun W' => phStart 13 name on list num flag ty cols rules exprs a0 a1 a2 a3 c0 c1 c2 c3 W' (by omega) Zn (nameT name) (Lib.hid rfl) zN (if flag = true then (ByteArray.mk #[99, 114, 101, 97, 116, 101, 32, 117, 110, 105, 113, 117, 101, 32, 105, 110, 100, 101, 120]) else (ByteArray.mk #[99, 114, 101, 97, 116, 101, 32, 105, 110, 100, 101, 120])) hs)
  obtain ⟨n1, n2, n3⟩ := namesB_parts hl
  have hln : list.length ≤ 12 := by omega
  have hsz : ∀ s ∈ (list.map nameT), s.size ≤ 82 := by
    intro t ht
    obtain ⟨u, hu, rfl⟩ := List.mem_map.1 ht
    exact nameT_small (n3 u hu)
  have hLL := lets_leq (list.map nameT) 82 hsz
  have hJl := joinT_le (list.map nameT) 82 hsz
  rw [List.length_map] at hLL hJl
  have zT : (listT list).size ≤ 5000 := by
    unfold listT
    rw [ByteArray.size_append, ByteArray.size_append, show (txt [40]).size = 1 from rfl, show (txt [41]).size = 1 from rfl]
    omega
  have hJ : lets (parts_13 name on list num flag ty cols rules exprs) + (parts_13 name on list num flag ty cols rules exprs).length ≤ 1073741824 := by
    have h := lets_leq (parts_13 name on list num flag ty cols rules exprs) 100000000 (by
      show ∀ s ∈ [(if flag = true then (ByteArray.mk #[99, 114, 101, 97, 116, 101, 32, 117, 110, 105, 113, 117, 101, 32, 105, 110, 100, 101, 120]) else (ByteArray.mk #[99, 114, 101, 97, 116, 101, 32, 105, 110, 100, 101, 120])), nameT name, (ByteArray.mk #[111, 110]), nameT on, listT list], s.size ≤ 100000000
      intro s hs
      simp only [List.mem_cons, List.not_mem_nil, or_false] at hs
      rcases hs with rfl | rfl | rfl | rfl | rfl
      · split <;> decide
      · omega
      · decide
      · omega
      · omega)
    have h2 : (parts_13 name on list num flag ty cols rules exprs).length = 5 := rfl
    omega
  refine implPut_indexPhrase 13 name on list num flag ty cols rules exprs a0 a1 a2 a3 c0 c1 c2 c3 w (by omega) writerAt_13 HOK (parts_13 name on list num flag ty cols rules exprs) (Lib.hid fun W hb => ?_) hJ r hr
  exact phIndex 13 name on list num flag ty cols rules exprs a0 a1 a2 a3 c0 c1 c2 c3 W [(if flag = true then (ByteArray.mk #[99, 114, 101, 97, 116, 101, 32, 117, 110, 105, 113, 117, 101, 32, 105, 110, 100, 101, 120]) else (ByteArray.mk #[99, 114, 101, 97, 116, 101, 32, 105, 110, 100, 101, 120])), nameT name] (by simp) (by simp) HCS (nameT on) (by omega) (Lib.hid fun W2 hb2 => implPutName on W2 Zo.out _ rfl) (list.map nameT) (by rw [List.length_map]; omega) (Lib.hid fun W2 hb2 => (textsN a0 c0 list W2 (HK.out W2 (hb.trans (hb2.mono hb.size))).1.sl trivial (fun x hx => by have h1 := lets_mem hx; have h2 := Zl.out; omega) (by omega) (fun x hx => by have h1 : (nameT x).size ≤ 82 := hsz _ (List.mem_map_of_mem hx); exact Nat.le_trans h1 (by decide))).mono (by rintro e w3 ⟨a4, c4, rfl, ho, hb3⟩; exact ⟨a4, c4, by rw [List.length_map], ho.strs (fun s hs => by have h1 := hsz s hs; unfold maxLen; omega), hb3⟩)) (listT list) (by omega) (by rw [List.length_map]; omega) rfl (parts_13 name on list num flag ty cols rules exprs) rfl

set_option maxRecDepth 100000 in
set_option maxHeartbeats 4000000 in
theorem implPutK_14 (name on : ByteArray) (list : List ByteArray) (num : Int) (flag : Bool) (ty : Ty) (cols : List Co) (rules : List Ru) (exprs : List Ex) (a0 a1 a2 a3 : Option Addr) (c0 c1 c2 c3 : Nat) (w : World)  (HT : Hid (∀ W, Below w.heap.size w W → TabR W)) (HK : Hid (∀ w', Below w.heap.size w w' → Ss 0 w' a0 c0 list ∧ Sl 6 RCo 0 w' a1 c1 cols ∧ Sl 6 RRu 0 w' a2 c2 rules ∧ Ks 0 w' a3 c3 exprs)) (Zn : Hid (name.size ≤ 1048576)) (Zo : Hid (on.size ≤ 1048576)) (Zt : Hid (ty.name.size ≤ 1048576)) (Zl : Hid (lets list ≤ 1048576)) (Zc : Hid (∀ x ∈ cols, x.wt ≤ 1048576)) (Zr : Hid (∀ x ∈ rules, x.wt ≤ 1048576)) (Zx : Hid (∀ x ∈ exprs, x.wt ≤ 1048576)) (hty : i64E ty.kind) (HOK : Hid (∀ W, Below w.heap.size w W → Calls Tryz.prog 54 #[.agg #[.int .i64 14, .string name, .string on, .slice a0 list.length c0, .int .i64 num, .bool flag, .int .i64 ty.kind, .int .i64 ty.len, .string ty.name, .slice a1 cols.length c1, .slice a2 rules.length c2, .slice a3 exprs.length c3]] W fun e w' => e = .returned (.bool true) ∧ Below W.heap.size W w')) (qn : nmB name = true) (r : ByteArray) (hr : joinT (parts_14 name on list num flag ty cols rules exprs) (txt [32]) = r) :
    Calls Tryz.prog 19 #[.agg #[.int .i64 14, .string name, .string on, .slice a0 list.length c0, .int .i64 num, .bool flag, .int .i64 ty.kind, .int .i64 ty.len, .string ty.name, .slice a1 cols.length c1, .slice a2 rules.length c2, .slice a3 exprs.length c3]] w fun e w' => e = .returned (.string r) ∧ Below w.heap.size w w' := by
  have zN : (nameT name).size ≤ 82 := nameT_small qn
  have hs : startB 14 flag = (ByteArray.mk #[100, 114, 111, 112, 32, 105, 110, 100, 101, 120]) := rfl
  have HCS := Lib.hid (fun W' => phStart 14 name on list num flag ty cols rules exprs a0 a1 a2 a3 c0 c1 c2 c3 W' (by omega) Zn (nameT name) (Lib.hid rfl) zN (ByteArray.mk #[100, 114, 111, 112, 32, 105, 110, 100, 101, 120]) hs)
  have hJ : lets (parts_14 name on list num flag ty cols rules exprs) + (parts_14 name on list num flag ty cols rules exprs).length ≤ 1073741824 := by
    have h := lets_leq (parts_14 name on list num flag ty cols rules exprs) 100000000 (by
      show ∀ s ∈ [(ByteArray.mk #[100, 114, 111, 112, 32, 105, 110, 100, 101, 120]), nameT name], s.size ≤ 100000000
      intro s hs
      simp only [List.mem_cons, List.not_mem_nil, or_false] at hs
      rcases hs with rfl | rfl
      · decide
      · omega)
    have h2 : (parts_14 name on list num flag ty cols rules exprs).length = 2 := rfl
    omega
  refine implPut_start 14 name on list num flag ty cols rules exprs a0 a1 a2 a3 c0 c1 c2 c3 w (by omega) writerAt_14 HOK (parts_14 name on list num flag ty cols rules exprs) (Lib.hid fun W hb => ?_) hJ r hr
  exact HCS.out W

set_option maxRecDepth 100000 in
set_option maxHeartbeats 4000000 in
theorem implPutK_15 (name on : ByteArray) (list : List ByteArray) (num : Int) (flag : Bool) (ty : Ty) (cols : List Co) (rules : List Ru) (exprs : List Ex) (a0 a1 a2 a3 : Option Addr) (c0 c1 c2 c3 : Nat) (w : World) (qo : nmB on = true) (hl : namesB list 12 = true) (hel : exprs.length ≤ 1) (hxa : ∀ x ∈ exprs, okX x = true) (HT : Hid (∀ W, Below w.heap.size w W → TabR W)) (HK : Hid (∀ w', Below w.heap.size w w' → Ss 0 w' a0 c0 list ∧ Sl 6 RCo 0 w' a1 c1 cols ∧ Sl 6 RRu 0 w' a2 c2 rules ∧ Ks 0 w' a3 c3 exprs)) (Zn : Hid (name.size ≤ 1048576)) (Zo : Hid (on.size ≤ 1048576)) (Zt : Hid (ty.name.size ≤ 1048576)) (Zl : Hid (lets list ≤ 1048576)) (Zc : Hid (∀ x ∈ cols, x.wt ≤ 1048576)) (Zr : Hid (∀ x ∈ rules, x.wt ≤ 1048576)) (Zx : Hid (∀ x ∈ exprs, x.wt ≤ 1048576)) (hty : i64E ty.kind) (HOK : Hid (∀ W, Below w.heap.size w W → Calls Tryz.prog 54 #[.agg #[.int .i64 15, .string name, .string on, .slice a0 list.length c0, .int .i64 num, .bool flag, .int .i64 ty.kind, .int .i64 ty.len, .string ty.name, .slice a1 cols.length c1, .slice a2 rules.length c2, .slice a3 exprs.length c3]] W fun e w' => e = .returned (.bool true) ∧ Below W.heap.size W w')) (qn : nmB name = true) (r : ByteArray) (hr : joinT (parts_15 name on list num flag ty cols rules exprs) (txt [32]) = r) :
    Calls Tryz.prog 19 #[.agg #[.int .i64 15, .string name, .string on, .slice a0 list.length c0, .int .i64 num, .bool flag, .int .i64 ty.kind, .int .i64 ty.len, .string ty.name, .slice a1 cols.length c1, .slice a2 rules.length c2, .slice a3 exprs.length c3]] w fun e w' => e = .returned (.string r) ∧ Below w.heap.size w w' := by
  have zN : (nameT name).size ≤ 82 := nameT_small qn
  have zM : (nameT on).size ≤ 82 := nameT_small qo
  have hs : startB 15 flag = (ByteArray.mk #[99, 114, 101, 97, 116, 101, 32, 118, 105, 101, 119]) := rfl
  have HCS := Lib.hid (fun W' => phStart 15 name on list num flag ty cols rules exprs a0 a1 a2 a3 c0 c1 c2 c3 W' (by omega) Zn (nameT name) (Lib.hid rfl) zN (ByteArray.mk #[99, 114, 101, 97, 116, 101, 32, 118, 105, 101, 119]) hs)
  obtain ⟨n1, n2, n3⟩ := namesB_parts hl
  have hln : list.length ≤ 12 := by omega
  have hsz : ∀ s ∈ (list.map nameT), s.size ≤ 82 := by
    intro t ht
    obtain ⟨u, hu, rfl⟩ := List.mem_map.1 ht
    exact nameT_small (n3 u hu)
  have hLL := lets_leq (list.map nameT) 82 hsz
  have hJl := joinT_le (list.map nameT) 82 hsz
  rw [List.length_map] at hLL hJl
  have zJ : (joinT (list.map nameT) (txt [44, 32])).size ≤ 5000 := by omega
  by_cases hx0 : exprs = []
  · subst hx0
    have hJ : lets (parts_15 name on list num flag ty cols rules []) + (parts_15 name on list num flag ty cols rules []).length ≤ 1073741824 := by
      have h := lets_leq (parts_15 name on list num flag ty cols rules []) 100000000 (by
        show ∀ s ∈ [(ByteArray.mk #[99, 114, 101, 97, 116, 101, 32, 118, 105, 101, 119]), nameT name, (ByteArray.mk #[97, 115, 32, 115, 101, 108, 101, 99, 116]), joinT (list.map nameT) (txt [44, 32]), (ByteArray.mk #[102, 114, 111, 109]), nameT on], s.size ≤ 100000000
        intro s hs
        simp only [List.mem_cons, List.not_mem_nil, or_false] at hs
        rcases hs with rfl | rfl | rfl | rfl | rfl | rfl
        · decide
        · omega
        · decide
        · omega
        · decide
        · omega)
      have h2 : (parts_15 name on list num flag ty cols rules []).length = 6 := rfl
      omega
    refine implPut_viewPhrase 15 name on list num flag ty cols rules [] a0 a1 a2 a3 c0 c1 c2 c3 w (by omega) writerAt_15 HOK (parts_15 name on list num flag ty cols rules []) (Lib.hid fun W hb => ?_) hJ r hr
    exact phView 15 name on list num flag ty cols rules [] a0 a1 a2 a3 c0 c1 c2 c3 W (list.map nameT) (by rw [List.length_map]; omega) (Lib.hid fun W2 hb2 => (textsN a0 c0 list W2 (HK.out W2 (hb.trans (hb2.mono hb.size))).1.sl trivial (fun x hx => by have h1 := lets_mem hx; have h2 := Zl.out; omega) (by omega) (fun x hx => by have h1 : (nameT x).size ≤ 82 := hsz _ (List.mem_map_of_mem hx); exact Nat.le_trans h1 (by decide))).mono (by rintro e w3 ⟨a4, c4, rfl, ho, hb3⟩; exact ⟨a4, c4, by rw [List.length_map], ho.strs (fun s hs => by have h1 := hsz s hs; unfold maxLen; omega), hb3⟩)) (by rw [List.length_map]; omega) (joinT (list.map nameT) (txt [44, 32])) (by omega) (Lib.hid rfl) [(ByteArray.mk #[99, 114, 101, 97, 116, 101, 32, 118, 105, 101, 119]), nameT name] (by simp) (by simp) HCS (nameT on) (by omega) (Lib.hid fun W2 hb2 => implPutName on W2 Zo.out _ rfl) ([(ByteArray.mk #[99, 114, 101, 97, 116, 101, 32, 118, 105, 101, 119]), nameT name] ++ [(ByteArray.mk #[97, 115, 32, 115, 101, 108, 101, 99, 116]), joinT (list.map nameT) (txt [44, 32]), (ByteArray.mk #[102, 114, 111, 109]), nameT on]) rfl (Lib.hid fun W2 hb2 => (HT.out W2 (hb.trans (hb2.mono hb.size))).tabs) (Lib.hid fun W2 hb2 => (HK.out W2 (hb.trans (hb2.mono hb.size))).2.2.2) Zx (Lib.hid fun e he => putT_small (hxa e he)) (parts_15 name on list num flag ty cols rules []) (Lib.hid rfl)
  · have hp : 0 < exprs.length := List.length_pos_iff.2 hx0
    obtain ⟨e1, h1⟩ := List.length_eq_one_iff.1 (show exprs.length = 1 by omega)
    clear hp hx0
    subst h1
    have zE : (putT e1).size ≤ 8400 := putT_small (hxa e1 (by simp))
    have hJ : lets (parts_15 name on list num flag ty cols rules [e1]) + (parts_15 name on list num flag ty cols rules [e1]).length ≤ 1073741824 := by
      have h := lets_leq (parts_15 name on list num flag ty cols rules [e1]) 100000000 (by
        show ∀ s ∈ [(ByteArray.mk #[99, 114, 101, 97, 116, 101, 32, 118, 105, 101, 119]), nameT name, (ByteArray.mk #[97, 115, 32, 115, 101, 108, 101, 99, 116]), joinT (list.map nameT) (txt [44, 32]), (ByteArray.mk #[102, 114, 111, 109]), nameT on, (ByteArray.mk #[119, 104, 101, 114, 101]), putT e1], s.size ≤ 100000000
        intro s hs
        simp only [List.mem_cons, List.not_mem_nil, or_false] at hs
        rcases hs with rfl | rfl | rfl | rfl | rfl | rfl | rfl | rfl
        · decide
        · omega
        · decide
        · omega
        · decide
        · omega
        · decide
        · omega)
      have h2 : (parts_15 name on list num flag ty cols rules [e1]).length = 8 := rfl
      omega
    refine implPut_viewPhrase 15 name on list num flag ty cols rules [e1] a0 a1 a2 a3 c0 c1 c2 c3 w (by omega) writerAt_15 HOK (parts_15 name on list num flag ty cols rules [e1]) (Lib.hid fun W hb => ?_) hJ r hr
    exact phView 15 name on list num flag ty cols rules [e1] a0 a1 a2 a3 c0 c1 c2 c3 W (list.map nameT) (by rw [List.length_map]; omega) (Lib.hid fun W2 hb2 => (textsN a0 c0 list W2 (HK.out W2 (hb.trans (hb2.mono hb.size))).1.sl trivial (fun x hx => by have h1 := lets_mem hx; have h2 := Zl.out; omega) (by omega) (fun x hx => by have h1 : (nameT x).size ≤ 82 := hsz _ (List.mem_map_of_mem hx); exact Nat.le_trans h1 (by decide))).mono (by rintro e w3 ⟨a4, c4, rfl, ho, hb3⟩; exact ⟨a4, c4, by rw [List.length_map], ho.strs (fun s hs => by have h1 := hsz s hs; unfold maxLen; omega), hb3⟩)) (by rw [List.length_map]; omega) (joinT (list.map nameT) (txt [44, 32])) (by omega) (Lib.hid rfl) [(ByteArray.mk #[99, 114, 101, 97, 116, 101, 32, 118, 105, 101, 119]), nameT name] (by simp) (by simp) HCS (nameT on) (by omega) (Lib.hid fun W2 hb2 => implPutName on W2 Zo.out _ rfl) ([(ByteArray.mk #[99, 114, 101, 97, 116, 101, 32, 118, 105, 101, 119]), nameT name] ++ [(ByteArray.mk #[97, 115, 32, 115, 101, 108, 101, 99, 116]), joinT (list.map nameT) (txt [44, 32]), (ByteArray.mk #[102, 114, 111, 109]), nameT on]) rfl (Lib.hid fun W2 hb2 => (HT.out W2 (hb.trans (hb2.mono hb.size))).tabs) (Lib.hid fun W2 hb2 => (HK.out W2 (hb.trans (hb2.mono hb.size))).2.2.2) Zx (Lib.hid fun e he => putT_small (hxa e he)) (parts_15 name on list num flag ty cols rules [e1]) (Lib.hid rfl)

set_option maxRecDepth 100000 in
set_option maxHeartbeats 4000000 in
theorem implPutK_16 (name on : ByteArray) (list : List ByteArray) (num : Int) (flag : Bool) (ty : Ty) (cols : List Co) (rules : List Ru) (exprs : List Ex) (a0 a1 a2 a3 : Option Addr) (c0 c1 c2 c3 : Nat) (w : World)  (HT : Hid (∀ W, Below w.heap.size w W → TabR W)) (HK : Hid (∀ w', Below w.heap.size w w' → Ss 0 w' a0 c0 list ∧ Sl 6 RCo 0 w' a1 c1 cols ∧ Sl 6 RRu 0 w' a2 c2 rules ∧ Ks 0 w' a3 c3 exprs)) (Zn : Hid (name.size ≤ 1048576)) (Zo : Hid (on.size ≤ 1048576)) (Zt : Hid (ty.name.size ≤ 1048576)) (Zl : Hid (lets list ≤ 1048576)) (Zc : Hid (∀ x ∈ cols, x.wt ≤ 1048576)) (Zr : Hid (∀ x ∈ rules, x.wt ≤ 1048576)) (Zx : Hid (∀ x ∈ exprs, x.wt ≤ 1048576)) (hty : i64E ty.kind) (HOK : Hid (∀ W, Below w.heap.size w W → Calls Tryz.prog 54 #[.agg #[.int .i64 16, .string name, .string on, .slice a0 list.length c0, .int .i64 num, .bool flag, .int .i64 ty.kind, .int .i64 ty.len, .string ty.name, .slice a1 cols.length c1, .slice a2 rules.length c2, .slice a3 exprs.length c3]] W fun e w' => e = .returned (.bool true) ∧ Below W.heap.size W w')) (qn : nmB name = true) (r : ByteArray) (hr : joinT (parts_16 name on list num flag ty cols rules exprs) (txt [32]) = r) :
    Calls Tryz.prog 19 #[.agg #[.int .i64 16, .string name, .string on, .slice a0 list.length c0, .int .i64 num, .bool flag, .int .i64 ty.kind, .int .i64 ty.len, .string ty.name, .slice a1 cols.length c1, .slice a2 rules.length c2, .slice a3 exprs.length c3]] w fun e w' => e = .returned (.string r) ∧ Below w.heap.size w w' := by
  have zN : (nameT name).size ≤ 82 := nameT_small qn
  have hs : startB 16 flag = (ByteArray.mk #[100, 114, 111, 112, 32, 118, 105, 101, 119]) := rfl
  have HCS := Lib.hid (fun W' => phStart 16 name on list num flag ty cols rules exprs a0 a1 a2 a3 c0 c1 c2 c3 W' (by omega) Zn (nameT name) (Lib.hid rfl) zN (ByteArray.mk #[100, 114, 111, 112, 32, 118, 105, 101, 119]) hs)
  have hJ : lets (parts_16 name on list num flag ty cols rules exprs) + (parts_16 name on list num flag ty cols rules exprs).length ≤ 1073741824 := by
    have h := lets_leq (parts_16 name on list num flag ty cols rules exprs) 100000000 (by
      show ∀ s ∈ [(ByteArray.mk #[100, 114, 111, 112, 32, 118, 105, 101, 119]), nameT name], s.size ≤ 100000000
      intro s hs
      simp only [List.mem_cons, List.not_mem_nil, or_false] at hs
      rcases hs with rfl | rfl
      · decide
      · omega)
    have h2 : (parts_16 name on list num flag ty cols rules exprs).length = 2 := rfl
    omega
  refine implPut_start 16 name on list num flag ty cols rules exprs a0 a1 a2 a3 c0 c1 c2 c3 w (by omega) writerAt_16 HOK (parts_16 name on list num flag ty cols rules exprs) (Lib.hid fun W hb => ?_) hJ r hr
  exact HCS.out W

set_option maxRecDepth 100000 in
set_option maxHeartbeats 4000000 in
theorem implPutStmt (vs : List Value) (x : St) (w : World) (hT : TabR w) (hR : RSt 0 w vs x) (hwt : x.wt ≤ 1048576) (r : ByteArray) (hr : stT x = r) :
    Calls Tryz.prog 19 #[.agg vs.toArray] w fun e w' => e = .returned (.string r) ∧ Below w.heap.size w w' := by
  have HC := Lib.hid (fun w' (hb : Below w.heap.size w w') => implStmtOk vs x w' (hT.call hb).formR (goodSt.kept hR (Kept.below hb)) hwt _ rfl)
  have HT := Lib.hid (fun w' (hb : Below w.heap.size w w') => hT.call hb)
  obtain ⟨kind, name, on, list, num, flag, ty, cols, rules, exprs⟩ := x
  obtain ⟨a0, c0, a1, c1, a2, c2, a3, c3, rfl, hfit, k0, k1, k2, k3⟩ := hR
  simp only at k0 k1 k2 k3
  have HK := Lib.hid (fun w' (hb : Below w.heap.size w w') => (show Ss 0 w' a0 c0 list ∧ Sl 6 RCo 0 w' a1 c1 cols ∧ Sl 6 RRu 0 w' a2 c2 rules ∧ Ks 0 w' a3 c3 exprs from ⟨k0.kept (Kept.below hb), k1.kept goodCo (Kept.below hb), k2.kept goodRu (Kept.below hb), k3.kept (Kept.below hb)⟩))
  have hW : (St.mk kind name on list num flag ty cols rules exprs).wt = name.size + on.size + (list.length + lets list) + ty.name.size + (cols.length + wtS Co.wt cols) + (rules.length + wtS Ru.wt rules) + (exprs.length + wtL exprs) := rfl
  have Zn := Lib.hid (show name.size ≤ 1048576 by omega)
  have Zo := Lib.hid (show on.size ≤ 1048576 by omega)
  have Zt := Lib.hid (show ty.name.size ≤ 1048576 by omega)
  have Zl := Lib.hid (show lets list ≤ 1048576 by omega)
  have Ze := Lib.hid (show wtL exprs ≤ 1048576 by omega)
  have Zc := Lib.hid (fun (x : Co) (hm : x ∈ cols) => (show x.wt ≤ 1048576 by have := wtS_mem Co.wt hm; omega))
  have Zr := Lib.hid (fun (x : Ru) (hm : x ∈ rules) => (show x.wt ≤ 1048576 by have := wtS_mem Ru.wt hm; omega))
  have Zx := Lib.hid (fun (x : Ex) (hm : x ∈ exprs) => (show x.wt ≤ 1048576 by have := wtL_mem hm; omega))
  have hty : i64E ty.kind := hfit.2.2.2.2.2.1
  unfold stT at hr
  clear k0 k1 k2 k3 hW
  cases hc : stB ⟨kind, name, on, list, num, flag, ty, cols, rules, exprs⟩ with
  | false =>
    have HV : Hid (r = ⟨#[]⟩) := by unfold Hid; rw [← hr, hc]; rfl
    have HB := Lib.hid (boxV_new w [.int .i64 kind, .string name, .string on, .slice a0 list.length c0, .int .i64 num, .bool flag, .int .i64 ty.kind, .int .i64 ty.len, .string ty.name, .slice a1 cols.length c1, .slice a2 rules.length c2, .slice a3 exprs.length c3] 55)
    simp only at HC ⊢
    rw [hc] at HC
    clear hr hc
    go_enter Tryz.func19, Tryz.ntmps19
    go_wp2_with fail
    refine (HC.out _ HB.out.2).mono ?_
    rintro e w1 ⟨rfl, b1⟩
    have B1 := Lib.hid (HB.out.call b1)
    clear b1
    go_wp2_with fail
    go_ret
    exact ⟨by rw [HV.out] <;> rfl, B1.out.2⟩
  | true =>
    rw [hc, if_pos rfl] at hr
    simp only at HC ⊢
    rw [hc] at HC
    have F := stB_facts hc
    obtain ⟨hin, qn, fo, fn, ft, fl, fc, fr, fe⟩ := F
    simp only at hin qn fo fn ft fl fc fr fe
    have hk17 : kind = 0 ∨ kind = 1 ∨ kind = 2 ∨ kind = 3 ∨ kind = 4 ∨ kind = 5 ∨ kind = 6 ∨ kind = 7 ∨ kind = 8 ∨ kind = 9 ∨ kind = 10 ∨ kind = 11 ∨ kind = 12 ∨ kind = 13 ∨ kind = 14 ∨ kind = 15 ∨ kind = 16 := by omega
    clear hin hc
    rcases hk17 with rfl | rfl | rfl | rfl | rfl | rfl | rfl | rfl | rfl | rfl | rfl | rfl | rfl | rfl | rfl | rfl | rfl
    · rw [partsT_0] at hr
      have fl1 : (1 : Int) ≤ list.length ∧ (list.length : Int) ≤ 12 := fl.1
      have hl : namesB list 12 = true := by unfold namesB inI; rw [List.all_eq_true.2 fl.2, decide_eq_true fl1.1, decide_eq_true fl1.2]; rfl
      exact implPutK_0 name on list num flag ty cols rules exprs a0 a1 a2 a3 c0 c1 c2 c3 w hl HT HK Zn Zo Zt Zl Zc Zr Zx hty (Lib.hid HC.out) qn r hr
    · rw [partsT_1] at hr
      exact implPutK_1 name on list num flag ty cols rules exprs a0 a1 a2 a3 c0 c1 c2 c3 w  HT HK Zn Zo Zt Zl Zc Zr Zx hty (Lib.hid HC.out) qn r hr
    · rw [partsT_2] at hr
      have hnum : 0 ≤ num ∧ num ≤ 999999999 := fn
      exact implPutK_2 name on list num flag ty cols rules exprs a0 a1 a2 a3 c0 c1 c2 c3 w hnum HT HK Zn Zo Zt Zl Zc Zr Zx hty (Lib.hid HC.out) qn r hr
    · rw [partsT_3] at hr
      exact implPutK_3 name on list num flag ty cols rules exprs a0 a1 a2 a3 c0 c1 c2 c3 w  HT HK Zn Zo Zt Zl Zc Zr Zx hty (Lib.hid HC.out) qn r hr
    · rw [partsT_4] at hr
      have fc1 : (cols.length : Int) ≤ 12 := fc.1.2
      have fr1 : (rules.length : Int) ≤ 8 := fr.1.2
      exact implPutK_4 name on list num flag ty cols rules exprs a0 a1 a2 a3 c0 c1 c2 c3 w (by omega) (by omega) fc.2 fr.2 HT HK Zn Zo Zt Zl Zc Zr Zx hty (Lib.hid HC.out) qn r hr
    · rw [partsT_5] at hr
      exact implPutK_5 name on list num flag ty cols rules exprs a0 a1 a2 a3 c0 c1 c2 c3 w  HT HK Zn Zo Zt Zl Zc Zr Zx hty (Lib.hid HC.out) qn r hr
    · rw [partsT_6] at hr
      have hc1 : (1 : Int) ≤ cols.length ∧ (cols.length : Int) ≤ 1 := fc.1
      obtain ⟨e1, h1⟩ := List.length_eq_one_iff.1 (show cols.length = 1 by omega)
      have hok := fc.2 e1 (by rw [h1]; simp)
      exact implPutK_6 name on list num flag ty cols rules exprs a0 a1 a2 a3 c0 c1 c2 c3 w e1 h1 hok HT HK Zn Zo Zt Zl Zc Zr Zx hty (Lib.hid HC.out) qn r hr
    · rw [partsT_7] at hr
      have qo : nmB on = true := fo rfl
      exact implPutK_7 name on list num flag ty cols rules exprs a0 a1 a2 a3 c0 c1 c2 c3 w qo HT HK Zn Zo Zt Zl Zc Zr Zx hty (Lib.hid HC.out) qn r hr
    · rw [partsT_8] at hr
      have qo : nmB on = true := fo rfl
      exact implPutK_8 name on list num flag ty cols rules exprs a0 a1 a2 a3 c0 c1 c2 c3 w qo ft HT HK Zn Zo Zt Zl Zc Zr Zx hty (Lib.hid HC.out) qn r hr
    · rw [partsT_9] at hr
      have qo : nmB on = true := fo rfl
      exact implPutK_9 name on list num flag ty cols rules exprs a0 a1 a2 a3 c0 c1 c2 c3 w qo HT HK Zn Zo Zt Zl Zc Zr Zx hty (Lib.hid HC.out) qn r hr
    · rw [partsT_10] at hr
      have qo : nmB on = true := fo rfl
      have fe1 : (exprs.length : Int) ≤ 1 := fe.1.2
      exact implPutK_10 name on list num flag ty cols rules exprs a0 a1 a2 a3 c0 c1 c2 c3 w qo (by omega) fe.2 HT HK Zn Zo Zt Zl Zc Zr Zx hty (Lib.hid HC.out) qn r hr
    · rw [partsT_11] at hr
      have hc1 : (1 : Int) ≤ rules.length ∧ (rules.length : Int) ≤ 1 := fr.1
      obtain ⟨e1, h1⟩ := List.length_eq_one_iff.1 (show rules.length = 1 by omega)
      have hok := fr.2 e1 (by rw [h1]; simp)
      exact implPutK_11 name on list num flag ty cols rules exprs a0 a1 a2 a3 c0 c1 c2 c3 w e1 h1 hok HT HK Zn Zo Zt Zl Zc Zr Zx hty (Lib.hid HC.out) qn r hr
    · rw [partsT_12] at hr
      have qo : nmB on = true := fo rfl
      exact implPutK_12 name on list num flag ty cols rules exprs a0 a1 a2 a3 c0 c1 c2 c3 w qo HT HK Zn Zo Zt Zl Zc Zr Zx hty (Lib.hid HC.out) qn r hr
    · rw [partsT_13] at hr
      have fl1 : (1 : Int) ≤ list.length ∧ (list.length : Int) ≤ 12 := fl.1
      have hl : namesB list 12 = true := by unfold namesB inI; rw [List.all_eq_true.2 fl.2, decide_eq_true fl1.1, decide_eq_true fl1.2]; rfl
      have qo : nmB on = true := fo rfl
      exact implPutK_13 name on list num flag ty cols rules exprs a0 a1 a2 a3 c0 c1 c2 c3 w qo hl HT HK Zn Zo Zt Zl Zc Zr Zx hty (Lib.hid HC.out) qn r hr
    · rw [partsT_14] at hr
      exact implPutK_14 name on list num flag ty cols rules exprs a0 a1 a2 a3 c0 c1 c2 c3 w  HT HK Zn Zo Zt Zl Zc Zr Zx hty (Lib.hid HC.out) qn r hr
    · rw [partsT_15] at hr
      have fl1 : (1 : Int) ≤ list.length ∧ (list.length : Int) ≤ 12 := fl.1
      have hl : namesB list 12 = true := by unfold namesB inI; rw [List.all_eq_true.2 fl.2, decide_eq_true fl1.1, decide_eq_true fl1.2]; rfl
      have qo : nmB on = true := fo rfl
      have fe1 : (exprs.length : Int) ≤ 1 := fe.1.2
      exact implPutK_15 name on list num flag ty cols rules exprs a0 a1 a2 a3 c0 c1 c2 c3 w qo hl (by omega) fe.2 HT HK Zn Zo Zt Zl Zc Zr Zx hty (Lib.hid HC.out) qn r hr
    · rw [partsT_16] at hr
      exact implPutK_16 name on list num flag ty cols rules exprs a0 a1 a2 a3 c0 c1 c2 c3 w  HT HK Zn Zo Zt Zl Zc Zr Zx hty (Lib.hid HC.out) qn r hr

end Go.Proofs.YtpdcmmhhgnackaaGreatDoor
