/- The model asks of a statement what the program asks. Nothing of the program. Written by tools/gen_st.py. -/
import Derived.Test.YtpdcmmhhgnackaaDoorMRuleI
namespace Go.Proofs.YtpdcmmhhgnackaaDoor
open Go.RowKit

theorem key_ty {ty : Ty} (b : Bool) : (tyB ty && (ty0 ty && b)) = (ty0 ty && b) := by
  cases h : ty0 ty with
  | false => simp
  | true => rw [ty0_ok h]; rfl

theorem key_6 (cols : List Co) (rules : List Ru) (a : Bool) : ((decide ((cols.length : Int) ≤ 1) && a) && (rules.isEmpty && decide (1 ≤ (cols.length : Int) + rules.length))) = (inI cols.length 1 1 && (a && rules.isEmpty)) := by
  cases rules with
  | nil =>
    unfold inI
    cases a with
    | false => simp
    | true => rw [Bool.eq_iff_iff]; simp; omega
  | cons x r => cases a <;> simp

theorem key_11 (cols : List Co) (rules : List Ru) (a : Bool) : (cols.isEmpty && ((decide ((rules.length : Int) ≤ 1) && a) && decide (1 ≤ (cols.length : Int) + rules.length))) = (cols.isEmpty && (inI rules.length 1 1 && a)) := by
  cases cols with
  | nil =>
    unfold inI
    cases a with
    | false => simp
    | true => rw [Bool.eq_iff_iff]; simp; omega
  | cons x r => cases a <;> simp

theorem key_num (num : Int) : ((num == 0) || inI num 0 999999999) = inI num 0 999999999 := by
  unfold inI
  rw [Bool.eq_iff_iff]
  simp
  omega

theorem all0 {X : Type} (f : X → Bool) (l : List X) : (decide ((l.length : Int) ≤ 0) && l.all f) = l.isEmpty := by
  rw [lt0, isEmpty_all]

theorem agree_0 (name on : ByteArray) (list : List ByteArray) (num : Int) (flag : Bool) (ty : Ty) (cols : List Co) (rules : List Ru) (exprs : List Ex) :
    stB ⟨0, name, on, list, num, flag, ty, cols, rules, exprs⟩ = (nmB name && (partsB 0 0 0 cols rules && (on.toList.isEmpty && (namesB list 12 && ((!flag) && (tyEq ⟨ty.kind, ty.len, ty.name⟩ ⟨0, 0, ⟨#[]⟩⟩ && ((num == 0) && exprsB exprs 0 0))))))) := by
  have hsf : sf 0 = ⟨[99, 114, 101, 97, 116, 101, 32, 116, 121, 112, 101], false, 1, 12, 0, 0, false, false, 0, 0, 0, 0, 0, 0⟩ := rfl
  have hty : tyEq ⟨ty.kind, ty.len, ty.name⟩ ⟨0, 0, ⟨#[]⟩⟩ = ty0 ty := rfl
  have hon : nameB on.data.toList = nmB on := rfl
  have htb : typeOkB ty.kind ty.len ty.name = tyB ty := rfl
  unfold stB fitsS partsB namesB exprsB useB
  simp only [hsf, hty, if_true, if_false, Bool.false_eq_true, reduceIte, num0 num, inle, all0, ge0, Int.reduceLE, decide_true, Bool.and_true, Bool.true_and, Bool.true_or, Bool.false_or, key_ty]
  clear hsf hty hon htb
  ac_rfl

theorem agree_1 (name on : ByteArray) (list : List ByteArray) (num : Int) (flag : Bool) (ty : Ty) (cols : List Co) (rules : List Ru) (exprs : List Ex) :
    stB ⟨1, name, on, list, num, flag, ty, cols, rules, exprs⟩ = (nmB name && (partsB 0 0 0 cols rules && (on.toList.isEmpty && ((((list.length : Nat) : Int) == 0) && ((!flag) && (tyEq ⟨ty.kind, ty.len, ty.name⟩ ⟨0, 0, ⟨#[]⟩⟩ && ((num == 0) && exprsB exprs 0 0))))))) := by
  have hsf : sf 1 = ⟨[100, 114, 111, 112, 32, 116, 121, 112, 101], false, 0, 0, 0, 0, false, false, 0, 0, 0, 0, 0, 0⟩ := rfl
  have hty : tyEq ⟨ty.kind, ty.len, ty.name⟩ ⟨0, 0, ⟨#[]⟩⟩ = ty0 ty := rfl
  have hon : nameB on.data.toList = nmB on := rfl
  have htb : typeOkB ty.kind ty.len ty.name = tyB ty := rfl
  unfold stB fitsS partsB exprsB useB
  simp only [hsf, hty, len0 list, if_true, if_false, Bool.false_eq_true, reduceIte, num0 num, inle, all0, ge0, Int.reduceLE, decide_true, Bool.and_true, Bool.true_and, Bool.true_or, Bool.false_or, key_ty]
  clear hsf hty hon htb
  ac_rfl

theorem agree_2 (name on : ByteArray) (list : List ByteArray) (num : Int) (flag : Bool) (ty : Ty) (cols : List Co) (rules : List Ru) (exprs : List Ex) :
    stB ⟨2, name, on, list, num, flag, ty, cols, rules, exprs⟩ = (nmB name && (partsB 0 0 0 cols rules && (on.toList.isEmpty && ((((list.length : Nat) : Int) == 0) && ((!flag) && (tyEq ⟨ty.kind, ty.len, ty.name⟩ ⟨0, 0, ⟨#[]⟩⟩ && (((num == 0) || inI num 0 999999999) && exprsB exprs 0 0))))))) := by
  have hsf : sf 2 = ⟨[99, 114, 101, 97, 116, 101, 32, 115, 101, 113, 117, 101, 110, 99, 101], false, 0, 0, 0, 999999999, false, false, 0, 0, 0, 0, 0, 0⟩ := rfl
  have hty : tyEq ⟨ty.kind, ty.len, ty.name⟩ ⟨0, 0, ⟨#[]⟩⟩ = ty0 ty := rfl
  have hon : nameB on.data.toList = nmB on := rfl
  have htb : typeOkB ty.kind ty.len ty.name = tyB ty := rfl
  unfold stB fitsS partsB exprsB useB
  simp only [hsf, hty, len0 list, if_true, if_false, Bool.false_eq_true, reduceIte, num0 num, inle, all0, ge0, Int.reduceLE, decide_true, Bool.and_true, Bool.true_and, Bool.true_or, Bool.false_or, key_num, key_ty]
  clear hsf hty hon htb
  ac_rfl

theorem agree_3 (name on : ByteArray) (list : List ByteArray) (num : Int) (flag : Bool) (ty : Ty) (cols : List Co) (rules : List Ru) (exprs : List Ex) :
    stB ⟨3, name, on, list, num, flag, ty, cols, rules, exprs⟩ = (nmB name && (partsB 0 0 0 cols rules && (on.toList.isEmpty && ((((list.length : Nat) : Int) == 0) && ((!flag) && (tyEq ⟨ty.kind, ty.len, ty.name⟩ ⟨0, 0, ⟨#[]⟩⟩ && ((num == 0) && exprsB exprs 0 0))))))) := by
  have hsf : sf 3 = ⟨[100, 114, 111, 112, 32, 115, 101, 113, 117, 101, 110, 99, 101], false, 0, 0, 0, 0, false, false, 0, 0, 0, 0, 0, 0⟩ := rfl
  have hty : tyEq ⟨ty.kind, ty.len, ty.name⟩ ⟨0, 0, ⟨#[]⟩⟩ = ty0 ty := rfl
  have hon : nameB on.data.toList = nmB on := rfl
  have htb : typeOkB ty.kind ty.len ty.name = tyB ty := rfl
  unfold stB fitsS partsB exprsB useB
  simp only [hsf, hty, len0 list, if_true, if_false, Bool.false_eq_true, reduceIte, num0 num, inle, all0, ge0, Int.reduceLE, decide_true, Bool.and_true, Bool.true_and, Bool.true_or, Bool.false_or, key_ty]
  clear hsf hty hon htb
  ac_rfl

theorem agree_4 (name on : ByteArray) (list : List ByteArray) (num : Int) (flag : Bool) (ty : Ty) (cols : List Co) (rules : List Ru) (exprs : List Ex) :
    stB ⟨4, name, on, list, num, flag, ty, cols, rules, exprs⟩ = (nmB name && (partsB 12 8 0 cols rules && (on.toList.isEmpty && ((((list.length : Nat) : Int) == 0) && ((!flag) && (tyEq ⟨ty.kind, ty.len, ty.name⟩ ⟨0, 0, ⟨#[]⟩⟩ && ((num == 0) && exprsB exprs 0 0))))))) := by
  have hsf : sf 4 = ⟨[99, 114, 101, 97, 116, 101, 32, 116, 97, 98, 108, 101], false, 0, 0, 0, 0, false, false, 0, 12, 0, 8, 0, 0⟩ := rfl
  have hty : tyEq ⟨ty.kind, ty.len, ty.name⟩ ⟨0, 0, ⟨#[]⟩⟩ = ty0 ty := rfl
  have hon : nameB on.data.toList = nmB on := rfl
  have htb : typeOkB ty.kind ty.len ty.name = tyB ty := rfl
  unfold stB fitsS partsB exprsB useB
  simp only [hsf, hty, len0 list, if_true, if_false, Bool.false_eq_true, reduceIte, num0 num, inle, all0, ge0, Int.reduceLE, decide_true, Bool.and_true, Bool.true_and, Bool.true_or, Bool.false_or, key_ty]
  clear hsf hty hon htb
  ac_rfl

theorem agree_5 (name on : ByteArray) (list : List ByteArray) (num : Int) (flag : Bool) (ty : Ty) (cols : List Co) (rules : List Ru) (exprs : List Ex) :
    stB ⟨5, name, on, list, num, flag, ty, cols, rules, exprs⟩ = (nmB name && (partsB 0 0 0 cols rules && (on.toList.isEmpty && ((((list.length : Nat) : Int) == 0) && ((!flag) && (tyEq ⟨ty.kind, ty.len, ty.name⟩ ⟨0, 0, ⟨#[]⟩⟩ && ((num == 0) && exprsB exprs 0 0))))))) := by
  have hsf : sf 5 = ⟨[100, 114, 111, 112, 32, 116, 97, 98, 108, 101], false, 0, 0, 0, 0, false, false, 0, 0, 0, 0, 0, 0⟩ := rfl
  have hty : tyEq ⟨ty.kind, ty.len, ty.name⟩ ⟨0, 0, ⟨#[]⟩⟩ = ty0 ty := rfl
  have hon : nameB on.data.toList = nmB on := rfl
  have htb : typeOkB ty.kind ty.len ty.name = tyB ty := rfl
  unfold stB fitsS partsB exprsB useB
  simp only [hsf, hty, len0 list, if_true, if_false, Bool.false_eq_true, reduceIte, num0 num, inle, all0, ge0, Int.reduceLE, decide_true, Bool.and_true, Bool.true_and, Bool.true_or, Bool.false_or, key_ty]
  clear hsf hty hon htb
  ac_rfl

theorem agree_6 (name on : ByteArray) (list : List ByteArray) (num : Int) (flag : Bool) (ty : Ty) (cols : List Co) (rules : List Ru) (exprs : List Ex) :
    stB ⟨6, name, on, list, num, flag, ty, cols, rules, exprs⟩ = (nmB name && (partsB 1 0 1 cols rules && (on.toList.isEmpty && ((((list.length : Nat) : Int) == 0) && ((!flag) && (tyEq ⟨ty.kind, ty.len, ty.name⟩ ⟨0, 0, ⟨#[]⟩⟩ && ((num == 0) && exprsB exprs 0 0))))))) := by
  have hsf : sf 6 = ⟨[97, 108, 116, 101, 114, 32, 116, 97, 98, 108, 101], false, 0, 0, 0, 0, false, false, 1, 1, 0, 0, 0, 0⟩ := rfl
  have hty : tyEq ⟨ty.kind, ty.len, ty.name⟩ ⟨0, 0, ⟨#[]⟩⟩ = ty0 ty := rfl
  have hon : nameB on.data.toList = nmB on := rfl
  have htb : typeOkB ty.kind ty.len ty.name = tyB ty := rfl
  unfold stB fitsS partsB exprsB useB
  simp only [hsf, hty, len0 list, if_true, if_false, Bool.false_eq_true, reduceIte, num0 num, inle, all0, ge0, Int.reduceLE, decide_true, Bool.and_true, Bool.true_and, Bool.true_or, Bool.false_or, key_6, key_ty]
  clear hsf hty hon htb
  ac_rfl

theorem agree_7 (name on : ByteArray) (list : List ByteArray) (num : Int) (flag : Bool) (ty : Ty) (cols : List Co) (rules : List Ru) (exprs : List Ex) :
    stB ⟨7, name, on, list, num, flag, ty, cols, rules, exprs⟩ = (nmB name && (partsB 0 0 0 cols rules && (nameB on.data.toList && ((((list.length : Nat) : Int) == 0) && ((!flag) && (tyEq ⟨ty.kind, ty.len, ty.name⟩ ⟨0, 0, ⟨#[]⟩⟩ && ((num == 0) && exprsB exprs 0 0))))))) := by
  have hsf : sf 7 = ⟨[97, 108, 116, 101, 114, 32, 116, 97, 98, 108, 101], true, 0, 0, 0, 0, false, false, 0, 0, 0, 0, 0, 0⟩ := rfl
  have hty : tyEq ⟨ty.kind, ty.len, ty.name⟩ ⟨0, 0, ⟨#[]⟩⟩ = ty0 ty := rfl
  have hon : nameB on.data.toList = nmB on := rfl
  have htb : typeOkB ty.kind ty.len ty.name = tyB ty := rfl
  unfold stB fitsS partsB exprsB useB
  simp only [hsf, hty, hon, len0 list, if_true, if_false, Bool.false_eq_true, reduceIte, num0 num, inle, all0, ge0, Int.reduceLE, decide_true, Bool.and_true, Bool.true_and, Bool.true_or, Bool.false_or, key_ty]
  clear hsf hty hon htb
  ac_rfl

theorem agree_8 (name on : ByteArray) (list : List ByteArray) (num : Int) (flag : Bool) (ty : Ty) (cols : List Co) (rules : List Ru) (exprs : List Ex) :
    stB ⟨8, name, on, list, num, flag, ty, cols, rules, exprs⟩ = (nmB name && (partsB 0 0 0 cols rules && (nameB on.data.toList && ((((list.length : Nat) : Int) == 0) && ((!flag) && (typeOkB ty.kind ty.len ty.name && ((num == 0) && exprsB exprs 0 0))))))) := by
  have hsf : sf 8 = ⟨[97, 108, 116, 101, 114, 32, 116, 97, 98, 108, 101], true, 0, 0, 0, 0, false, true, 0, 0, 0, 0, 0, 0⟩ := rfl
  have hty : tyEq ⟨ty.kind, ty.len, ty.name⟩ ⟨0, 0, ⟨#[]⟩⟩ = ty0 ty := rfl
  have hon : nameB on.data.toList = nmB on := rfl
  have htb : typeOkB ty.kind ty.len ty.name = tyB ty := rfl
  unfold stB fitsS partsB exprsB useB
  simp only [hsf, hon, htb, len0 list, if_true, if_false, Bool.false_eq_true, reduceIte, num0 num, inle, all0, ge0, Int.reduceLE, decide_true, Bool.and_true, Bool.true_and, Bool.true_or, Bool.false_or, ]
  clear hsf hty hon htb
  ac_rfl

theorem agree_9 (name on : ByteArray) (list : List ByteArray) (num : Int) (flag : Bool) (ty : Ty) (cols : List Co) (rules : List Ru) (exprs : List Ex) :
    stB ⟨9, name, on, list, num, flag, ty, cols, rules, exprs⟩ = (nmB name && (partsB 0 0 0 cols rules && (nameB on.data.toList && ((((list.length : Nat) : Int) == 0) && (true && (tyEq ⟨ty.kind, ty.len, ty.name⟩ ⟨0, 0, ⟨#[]⟩⟩ && ((num == 0) && exprsB exprs 0 0))))))) := by
  have hsf : sf 9 = ⟨[97, 108, 116, 101, 114, 32, 116, 97, 98, 108, 101], true, 0, 0, 0, 0, true, false, 0, 0, 0, 0, 0, 0⟩ := rfl
  have hty : tyEq ⟨ty.kind, ty.len, ty.name⟩ ⟨0, 0, ⟨#[]⟩⟩ = ty0 ty := rfl
  have hon : nameB on.data.toList = nmB on := rfl
  have htb : typeOkB ty.kind ty.len ty.name = tyB ty := rfl
  unfold stB fitsS partsB exprsB useB
  simp only [hsf, hty, hon, len0 list, if_true, if_false, Bool.false_eq_true, reduceIte, num0 num, inle, all0, ge0, Int.reduceLE, decide_true, Bool.and_true, Bool.true_and, Bool.true_or, Bool.false_or, key_ty]
  clear hsf hty hon htb
  ac_rfl

theorem agree_10 (name on : ByteArray) (list : List ByteArray) (num : Int) (flag : Bool) (ty : Ty) (cols : List Co) (rules : List Ru) (exprs : List Ex) :
    stB ⟨10, name, on, list, num, flag, ty, cols, rules, exprs⟩ = (nmB name && (partsB 0 0 0 cols rules && (nameB on.data.toList && ((((list.length : Nat) : Int) == 0) && ((!flag) && (tyEq ⟨ty.kind, ty.len, ty.name⟩ ⟨0, 0, ⟨#[]⟩⟩ && ((num == 0) && exprsB exprs 0 1))))))) := by
  have hsf : sf 10 = ⟨[97, 108, 116, 101, 114, 32, 116, 97, 98, 108, 101], true, 0, 0, 0, 0, false, false, 0, 0, 0, 0, 0, 1⟩ := rfl
  have hty : tyEq ⟨ty.kind, ty.len, ty.name⟩ ⟨0, 0, ⟨#[]⟩⟩ = ty0 ty := rfl
  have hon : nameB on.data.toList = nmB on := rfl
  have htb : typeOkB ty.kind ty.len ty.name = tyB ty := rfl
  unfold stB fitsS partsB exprsB useB
  simp only [hsf, hty, hon, len0 list, if_true, if_false, Bool.false_eq_true, reduceIte, num0 num, inle, all0, ge0, Int.reduceLE, decide_true, Bool.and_true, Bool.true_and, Bool.true_or, Bool.false_or, key_ty]
  clear hsf hty hon htb
  ac_rfl

theorem agree_11 (name on : ByteArray) (list : List ByteArray) (num : Int) (flag : Bool) (ty : Ty) (cols : List Co) (rules : List Ru) (exprs : List Ex) :
    stB ⟨11, name, on, list, num, flag, ty, cols, rules, exprs⟩ = (nmB name && (partsB 0 1 1 cols rules && (on.toList.isEmpty && ((((list.length : Nat) : Int) == 0) && ((!flag) && (tyEq ⟨ty.kind, ty.len, ty.name⟩ ⟨0, 0, ⟨#[]⟩⟩ && ((num == 0) && exprsB exprs 0 0))))))) := by
  have hsf : sf 11 = ⟨[97, 108, 116, 101, 114, 32, 116, 97, 98, 108, 101], false, 0, 0, 0, 0, false, false, 0, 0, 1, 1, 0, 0⟩ := rfl
  have hty : tyEq ⟨ty.kind, ty.len, ty.name⟩ ⟨0, 0, ⟨#[]⟩⟩ = ty0 ty := rfl
  have hon : nameB on.data.toList = nmB on := rfl
  have htb : typeOkB ty.kind ty.len ty.name = tyB ty := rfl
  unfold stB fitsS partsB exprsB useB
  simp only [hsf, hty, len0 list, if_true, if_false, Bool.false_eq_true, reduceIte, num0 num, inle, all0, ge0, Int.reduceLE, decide_true, Bool.and_true, Bool.true_and, Bool.true_or, Bool.false_or, key_11, key_ty]
  clear hsf hty hon htb
  ac_rfl

theorem agree_12 (name on : ByteArray) (list : List ByteArray) (num : Int) (flag : Bool) (ty : Ty) (cols : List Co) (rules : List Ru) (exprs : List Ex) :
    stB ⟨12, name, on, list, num, flag, ty, cols, rules, exprs⟩ = (nmB name && (partsB 0 0 0 cols rules && (nameB on.data.toList && ((((list.length : Nat) : Int) == 0) && ((!flag) && (tyEq ⟨ty.kind, ty.len, ty.name⟩ ⟨0, 0, ⟨#[]⟩⟩ && ((num == 0) && exprsB exprs 0 0))))))) := by
  have hsf : sf 12 = ⟨[97, 108, 116, 101, 114, 32, 116, 97, 98, 108, 101], true, 0, 0, 0, 0, false, false, 0, 0, 0, 0, 0, 0⟩ := rfl
  have hty : tyEq ⟨ty.kind, ty.len, ty.name⟩ ⟨0, 0, ⟨#[]⟩⟩ = ty0 ty := rfl
  have hon : nameB on.data.toList = nmB on := rfl
  have htb : typeOkB ty.kind ty.len ty.name = tyB ty := rfl
  unfold stB fitsS partsB exprsB useB
  simp only [hsf, hty, hon, len0 list, if_true, if_false, Bool.false_eq_true, reduceIte, num0 num, inle, all0, ge0, Int.reduceLE, decide_true, Bool.and_true, Bool.true_and, Bool.true_or, Bool.false_or, key_ty]
  clear hsf hty hon htb
  ac_rfl

theorem agree_13 (name on : ByteArray) (list : List ByteArray) (num : Int) (flag : Bool) (ty : Ty) (cols : List Co) (rules : List Ru) (exprs : List Ex) :
    stB ⟨13, name, on, list, num, flag, ty, cols, rules, exprs⟩ = (nmB name && (partsB 0 0 0 cols rules && (nameB on.data.toList && (namesB list 12 && (true && (tyEq ⟨ty.kind, ty.len, ty.name⟩ ⟨0, 0, ⟨#[]⟩⟩ && ((num == 0) && exprsB exprs 0 0))))))) := by
  have hsf : sf 13 = ⟨[99, 114, 101, 97, 116, 101, 32, 105, 110, 100, 101, 120], true, 1, 12, 0, 0, true, false, 0, 0, 0, 0, 0, 0⟩ := rfl
  have hty : tyEq ⟨ty.kind, ty.len, ty.name⟩ ⟨0, 0, ⟨#[]⟩⟩ = ty0 ty := rfl
  have hon : nameB on.data.toList = nmB on := rfl
  have htb : typeOkB ty.kind ty.len ty.name = tyB ty := rfl
  unfold stB fitsS partsB namesB exprsB useB
  simp only [hsf, hty, hon, if_true, if_false, Bool.false_eq_true, reduceIte, num0 num, inle, all0, ge0, Int.reduceLE, decide_true, Bool.and_true, Bool.true_and, Bool.true_or, Bool.false_or, key_ty]
  clear hsf hty hon htb
  ac_rfl

theorem agree_14 (name on : ByteArray) (list : List ByteArray) (num : Int) (flag : Bool) (ty : Ty) (cols : List Co) (rules : List Ru) (exprs : List Ex) :
    stB ⟨14, name, on, list, num, flag, ty, cols, rules, exprs⟩ = (nmB name && (partsB 0 0 0 cols rules && (on.toList.isEmpty && ((((list.length : Nat) : Int) == 0) && ((!flag) && (tyEq ⟨ty.kind, ty.len, ty.name⟩ ⟨0, 0, ⟨#[]⟩⟩ && ((num == 0) && exprsB exprs 0 0))))))) := by
  have hsf : sf 14 = ⟨[100, 114, 111, 112, 32, 105, 110, 100, 101, 120], false, 0, 0, 0, 0, false, false, 0, 0, 0, 0, 0, 0⟩ := rfl
  have hty : tyEq ⟨ty.kind, ty.len, ty.name⟩ ⟨0, 0, ⟨#[]⟩⟩ = ty0 ty := rfl
  have hon : nameB on.data.toList = nmB on := rfl
  have htb : typeOkB ty.kind ty.len ty.name = tyB ty := rfl
  unfold stB fitsS partsB exprsB useB
  simp only [hsf, hty, len0 list, if_true, if_false, Bool.false_eq_true, reduceIte, num0 num, inle, all0, ge0, Int.reduceLE, decide_true, Bool.and_true, Bool.true_and, Bool.true_or, Bool.false_or, key_ty]
  clear hsf hty hon htb
  ac_rfl

theorem agree_15 (name on : ByteArray) (list : List ByteArray) (num : Int) (flag : Bool) (ty : Ty) (cols : List Co) (rules : List Ru) (exprs : List Ex) :
    stB ⟨15, name, on, list, num, flag, ty, cols, rules, exprs⟩ = (nmB name && (partsB 0 0 0 cols rules && (nameB on.data.toList && (namesB list 12 && ((!flag) && (tyEq ⟨ty.kind, ty.len, ty.name⟩ ⟨0, 0, ⟨#[]⟩⟩ && ((num == 0) && exprsB exprs 0 1))))))) := by
  have hsf : sf 15 = ⟨[99, 114, 101, 97, 116, 101, 32, 118, 105, 101, 119], true, 1, 12, 0, 0, false, false, 0, 0, 0, 0, 0, 1⟩ := rfl
  have hty : tyEq ⟨ty.kind, ty.len, ty.name⟩ ⟨0, 0, ⟨#[]⟩⟩ = ty0 ty := rfl
  have hon : nameB on.data.toList = nmB on := rfl
  have htb : typeOkB ty.kind ty.len ty.name = tyB ty := rfl
  unfold stB fitsS partsB namesB exprsB useB
  simp only [hsf, hty, hon, if_true, if_false, Bool.false_eq_true, reduceIte, num0 num, inle, all0, ge0, Int.reduceLE, decide_true, Bool.and_true, Bool.true_and, Bool.true_or, Bool.false_or, key_ty]
  clear hsf hty hon htb
  ac_rfl

theorem agree_16 (name on : ByteArray) (list : List ByteArray) (num : Int) (flag : Bool) (ty : Ty) (cols : List Co) (rules : List Ru) (exprs : List Ex) :
    stB ⟨16, name, on, list, num, flag, ty, cols, rules, exprs⟩ = (nmB name && (partsB 0 0 0 cols rules && (on.toList.isEmpty && ((((list.length : Nat) : Int) == 0) && ((!flag) && (tyEq ⟨ty.kind, ty.len, ty.name⟩ ⟨0, 0, ⟨#[]⟩⟩ && ((num == 0) && exprsB exprs 0 0))))))) := by
  have hsf : sf 16 = ⟨[100, 114, 111, 112, 32, 118, 105, 101, 119], false, 0, 0, 0, 0, false, false, 0, 0, 0, 0, 0, 0⟩ := rfl
  have hty : tyEq ⟨ty.kind, ty.len, ty.name⟩ ⟨0, 0, ⟨#[]⟩⟩ = ty0 ty := rfl
  have hon : nameB on.data.toList = nmB on := rfl
  have htb : typeOkB ty.kind ty.len ty.name = tyB ty := rfl
  unfold stB fitsS partsB exprsB useB
  simp only [hsf, hty, len0 list, if_true, if_false, Bool.false_eq_true, reduceIte, num0 num, inle, all0, ge0, Int.reduceLE, decide_true, Bool.and_true, Bool.true_and, Bool.true_or, Bool.false_or, key_ty]
  clear hsf hty hon htb
  ac_rfl

theorem stB_out (s : St) (h : ¬ (0 ≤ s.kind ∧ s.kind ≤ 16)) : stB s = false := by
  unfold stB
  by_cases h0 : 0 ≤ s.kind
  · rw [decide_eq_false (show ¬ s.kind ≤ 16 by omega)]; simp
  · rw [decide_eq_false h0]; rfl

end Go.Proofs.YtpdcmmhhgnackaaDoor
