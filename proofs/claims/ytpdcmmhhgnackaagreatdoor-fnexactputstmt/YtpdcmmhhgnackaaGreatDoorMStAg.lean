/- The model asks of a statement what the program asks. Nothing of the program. Written by tools/gen_st.py. -/
/- spec.PutName. -/
/- A strings.Builder that the call itself has laid: what WriteByte puts behind, what String answers; walked over the library's own text. -/
/- impl.Quote answers the text between quotes, each of its quotes doubled. -/
/- impl.PutName. -/
/- impl.DecText answers the decimal numeral, where strconv's table stands as the text lays it. -/
import Derived.Test.YtpdcmmhhgnackaaGreatDoorMRuleI
import Derived.Test.YtpdcmmhhgnackaaGreatDoorMNameImpl
import Derived.Test.YtpdcmmhhgnackaaGreatDoorMPl
import Derived.Test.YtpdcmmhhgnackaaGreatDoorMShelf
import Derived.Lib.Builder
import Derived.Below
import Derived.Lib.LaidTab
import Derived.Stop.LaidErr
namespace Go.Proofs.YtpdcmmhhgnackaaGreatDoor
open Go.RowKit

theorem key_ty {ty : Ty} (b : Bool) : (tyB ty && (ty0 ty && b)) = (ty0 ty && b) := by
  cases h : ty0 ty with
  | false => simp
  | true => rw [ty0_ok h]; rfl

theorem key_6 (cols : List Co) (rules : List Ru) (a : Bool) : ((decide ((cols.length : Int) ≤ 1) && a) && (rules.isEmpty && decide (1 ≤ (cols.length : Int) + rules.length))) = (inI cols.length 1 1 && (a && rules.isEmpty)) := by
  cases rules with
  | nil =>
    unfold inI
    cases a with
    | false => simp
    | true => rw [Bool.eq_iff_iff]; simp; omega
  | cons x r => cases a <;> simp

theorem key_11 (cols : List Co) (rules : List Ru) (a : Bool) : (cols.isEmpty && ((decide ((rules.length : Int) ≤ 1) && a) && decide (1 ≤ (cols.length : Int) + rules.length))) = (cols.isEmpty && (inI rules.length 1 1 && a)) := by
  cases cols with
  | nil =>
    unfold inI
    cases a with
    | false => simp
    | true => rw [Bool.eq_iff_iff]; simp; omega
  | cons x r => cases a <;> simp

theorem key_num (num : Int) : ((num == 0) || inI num 0 999999999) = inI num 0 999999999 := by
  unfold inI
  rw [Bool.eq_iff_iff]
  simp
  omega

theorem all0 {X : Type} (f : X → Bool) (l : List X) : (decide ((l.length : Int) ≤ 0) && l.all f) = l.isEmpty := by
  rw [lt0, isEmpty_all]

theorem agree_0 (name on : ByteArray) (list : List ByteArray) (num : Int) (flag : Bool) (ty : Ty) (cols : List Co) (rules : List Ru) (exprs : List Ex) :
    stB ⟨0, name, on, list, num, flag, ty, cols, rules, exprs⟩ = (nmB name && (partsB 0 0 0 cols rules && (on.toList.isEmpty && (namesB list 12 && ((!flag) && (tyEq ⟨ty.kind, ty.len, ty.name⟩ ⟨0, 0, ⟨#[]⟩⟩ && ((num == 0) && exprsB exprs 0 0))))))) := by
  have hsf : sf 0 = ⟨[99, 114, 101, 97, 116, 101, 32, 116, 121, 112, 101], false, 1, 12, 0, 0, false, false, 0, 0, 0, 0, 0, 0⟩ := rfl
  have hty : tyEq ⟨ty.kind, ty.len, ty.name⟩ ⟨0, 0, ⟨#[]⟩⟩ = ty0 ty := rfl
  have hon : nameB on.data.toList = nmB on := rfl
  have htb : typeOkB ty.kind ty.len ty.name = tyB ty := rfl
  unfold stB fitsS partsB namesB exprsB useB
  simp only [hsf, hty, if_true, if_false, Bool.false_eq_true, reduceIte, num0 num, inle, all0, ge0, Int.reduceLE, decide_true, Bool.and_true, Bool.true_and, Bool.true_or, Bool.false_or, key_ty]
  clear hsf hty hon htb
  ac_rfl

theorem agree_1 (name on : ByteArray) (list : List ByteArray) (num : Int) (flag : Bool) (ty : Ty) (cols : List Co) (rules : List Ru) (exprs : List Ex) :
    stB ⟨1, name, on, list, num, flag, ty, cols, rules, exprs⟩ = (nmB name && (partsB 0 0 0 cols rules && (on.toList.isEmpty && ((((list.length : Nat) : Int) == 0) && ((!flag) && (tyEq ⟨ty.kind, ty.len, ty.name⟩ ⟨0, 0, ⟨#[]⟩⟩ && ((num == 0) && exprsB exprs 0 0))))))) := by
  have hsf : sf 1 = ⟨[100, 114, 111, 112, 32, 116, 121, 112, 101], false, 0, 0, 0, 0, false, false, 0, 0, 0, 0, 0, 0⟩ := rfl
  have hty : tyEq ⟨ty.kind, ty.len, ty.name⟩ ⟨0, 0, ⟨#[]⟩⟩ = ty0 ty := rfl
  have hon : nameB on.data.toList = nmB on := rfl
  have htb : typeOkB ty.kind ty.len ty.name = tyB ty := rfl
  unfold stB fitsS partsB exprsB useB
  simp only [hsf, hty, len0 list, if_true, if_false, Bool.false_eq_true, reduceIte, num0 num, inle, all0, ge0, Int.reduceLE, decide_true, Bool.and_true, Bool.true_and, Bool.true_or, Bool.false_or, key_ty]
  clear hsf hty hon htb
  ac_rfl

theorem agree_2 (name on : ByteArray) (list : List ByteArray) (num : Int) (flag : Bool) (ty : Ty) (cols : List Co) (rules : List Ru) (exprs : List Ex) :
    stB ⟨2, name, on, list, num, flag, ty, cols, rules, exprs⟩ = (nmB name && (partsB 0 0 0 cols rules && (on.toList.isEmpty && ((((list.length : Nat) : Int) == 0) && ((!flag) && (tyEq ⟨ty.kind, ty.len, ty.name⟩ ⟨0, 0, ⟨#[]⟩⟩ && (((num == 0) || inI num 0 999999999) && exprsB exprs 0 0))))))) := by
  have hsf : sf 2 = ⟨[99, 114, 101, 97, 116, 101, 32, 115, 101, 113, 117, 101, 110, 99, 101], false, 0, 0, 0, 999999999, false, false, 0, 0, 0, 0, 0, 0⟩ := rfl
  have hty : tyEq ⟨ty.kind, ty.len, ty.name⟩ ⟨0, 0, ⟨#[]⟩⟩ = ty0 ty := rfl
  have hon : nameB on.data.toList = nmB on := rfl
  have htb : typeOkB ty.kind ty.len ty.name = tyB ty := rfl
  unfold stB fitsS partsB exprsB useB
  simp only [hsf, hty, len0 list, if_true, if_false, Bool.false_eq_true, reduceIte, num0 num, inle, all0, ge0, Int.reduceLE, decide_true, Bool.and_true, Bool.true_and, Bool.true_or, Bool.false_or, key_num, key_ty]
  clear hsf hty hon htb
  ac_rfl

theorem agree_3 (name on : ByteArray) (list : List ByteArray) (num : Int) (flag : Bool) (ty : Ty) (cols : List Co) (rules : List Ru) (exprs : List Ex) :
    stB ⟨3, name, on, list, num, flag, ty, cols, rules, exprs⟩ = (nmB name && (partsB 0 0 0 cols rules && (on.toList.isEmpty && ((((list.length : Nat) : Int) == 0) && ((!flag) && (tyEq ⟨ty.kind, ty.len, ty.name⟩ ⟨0, 0, ⟨#[]⟩⟩ && ((num == 0) && exprsB exprs 0 0))))))) := by
  have hsf : sf 3 = ⟨[100, 114, 111, 112, 32, 115, 101, 113, 117, 101, 110, 99, 101], false, 0, 0, 0, 0, false, false, 0, 0, 0, 0, 0, 0⟩ := rfl
  have hty : tyEq ⟨ty.kind, ty.len, ty.name⟩ ⟨0, 0, ⟨#[]⟩⟩ = ty0 ty := rfl
  have hon : nameB on.data.toList = nmB on := rfl
  have htb : typeOkB ty.kind ty.len ty.name = tyB ty := rfl
  unfold stB fitsS partsB exprsB useB
  simp only [hsf, hty, len0 list, if_true, if_false, Bool.false_eq_true, reduceIte, num0 num, inle, all0, ge0, Int.reduceLE, decide_true, Bool.and_true, Bool.true_and, Bool.true_or, Bool.false_or, key_ty]
  clear hsf hty hon htb
  ac_rfl

theorem agree_4 (name on : ByteArray) (list : List ByteArray) (num : Int) (flag : Bool) (ty : Ty) (cols : List Co) (rules : List Ru) (exprs : List Ex) :
    stB ⟨4, name, on, list, num, flag, ty, cols, rules, exprs⟩ = (nmB name && (partsB 12 8 0 cols rules && (on.toList.isEmpty && ((((list.length : Nat) : Int) == 0) && ((!flag) && (tyEq ⟨ty.kind, ty.len, ty.name⟩ ⟨0, 0, ⟨#[]⟩⟩ && ((num == 0) && exprsB exprs 0 0))))))) := by
  have hsf : sf 4 = ⟨[99, 114, 101, 97, 116, 101, 32, 116, 97, 98, 108, 101], false, 0, 0, 0, 0, false, false, 0, 12, 0, 8, 0, 0⟩ := rfl
  have hty : tyEq ⟨ty.kind, ty.len, ty.name⟩ ⟨0, 0, ⟨#[]⟩⟩ = ty0 ty := rfl
  have hon : nameB on.data.toList = nmB on := rfl
  have htb : typeOkB ty.kind ty.len ty.name = tyB ty := rfl
  unfold stB fitsS partsB exprsB useB
  simp only [hsf, hty, len0 list, if_true, if_false, Bool.false_eq_true, reduceIte, num0 num, inle, all0, ge0, Int.reduceLE, decide_true, Bool.and_true, Bool.true_and, Bool.true_or, Bool.false_or, key_ty]
  clear hsf hty hon htb
  ac_rfl

theorem agree_5 (name on : ByteArray) (list : List ByteArray) (num : Int) (flag : Bool) (ty : Ty) (cols : List Co) (rules : List Ru) (exprs : List Ex) :
    stB ⟨5, name, on, list, num, flag, ty, cols, rules, exprs⟩ = (nmB name && (partsB 0 0 0 cols rules && (on.toList.isEmpty && ((((list.length : Nat) : Int) == 0) && ((!flag) && (tyEq ⟨ty.kind, ty.len, ty.name⟩ ⟨0, 0, ⟨#[]⟩⟩ && ((num == 0) && exprsB exprs 0 0))))))) := by
  have hsf : sf 5 = ⟨[100, 114, 111, 112, 32, 116, 97, 98, 108, 101], false, 0, 0, 0, 0, false, false, 0, 0, 0, 0, 0, 0⟩ := rfl
  have hty : tyEq ⟨ty.kind, ty.len, ty.name⟩ ⟨0, 0, ⟨#[]⟩⟩ = ty0 ty := rfl
  have hon : nameB on.data.toList = nmB on := rfl
  have htb : typeOkB ty.kind ty.len ty.name = tyB ty := rfl
  unfold stB fitsS partsB exprsB useB
  simp only [hsf, hty, len0 list, if_true, if_false, Bool.false_eq_true, reduceIte, num0 num, inle, all0, ge0, Int.reduceLE, decide_true, Bool.and_true, Bool.true_and, Bool.true_or, Bool.false_or, key_ty]
  clear hsf hty hon htb
  ac_rfl

theorem agree_6 (name on : ByteArray) (list : List ByteArray) (num : Int) (flag : Bool) (ty : Ty) (cols : List Co) (rules : List Ru) (exprs : List Ex) :
    stB ⟨6, name, on, list, num, flag, ty, cols, rules, exprs⟩ = (nmB name && (partsB 1 0 1 cols rules && (on.toList.isEmpty && ((((list.length : Nat) : Int) == 0) && ((!flag) && (tyEq ⟨ty.kind, ty.len, ty.name⟩ ⟨0, 0, ⟨#[]⟩⟩ && ((num == 0) && exprsB exprs 0 0))))))) := by
  have hsf : sf 6 = ⟨[97, 108, 116, 101, 114, 32, 116, 97, 98, 108, 101], false, 0, 0, 0, 0, false, false, 1, 1, 0, 0, 0, 0⟩ := rfl
  have hty : tyEq ⟨ty.kind, ty.len, ty.name⟩ ⟨0, 0, ⟨#[]⟩⟩ = ty0 ty := rfl
  have hon : nameB on.data.toList = nmB on := rfl
  have htb : typeOkB ty.kind ty.len ty.name = tyB ty := rfl
  unfold stB fitsS partsB exprsB useB
  simp only [hsf, hty, len0 list, if_true, if_false, Bool.false_eq_true, reduceIte, num0 num, inle, all0, ge0, Int.reduceLE, decide_true, Bool.and_true, Bool.true_and, Bool.true_or, Bool.false_or, key_6, key_ty]
  clear hsf hty hon htb
  ac_rfl

theorem agree_7 (name on : ByteArray) (list : List ByteArray) (num : Int) (flag : Bool) (ty : Ty) (cols : List Co) (rules : List Ru) (exprs : List Ex) :
    stB ⟨7, name, on, list, num, flag, ty, cols, rules, exprs⟩ = (nmB name && (partsB 0 0 0 cols rules && (nameB on.data.toList && ((((list.length : Nat) : Int) == 0) && ((!flag) && (tyEq ⟨ty.kind, ty.len, ty.name⟩ ⟨0, 0, ⟨#[]⟩⟩ && ((num == 0) && exprsB exprs 0 0))))))) := by
  have hsf : sf 7 = ⟨[97, 108, 116, 101, 114, 32, 116, 97, 98, 108, 101], true, 0, 0, 0, 0, false, false, 0, 0, 0, 0, 0, 0⟩ := rfl
  have hty : tyEq ⟨ty.kind, ty.len, ty.name⟩ ⟨0, 0, ⟨#[]⟩⟩ = ty0 ty := rfl
  have hon : nameB on.data.toList = nmB on := rfl
  have htb : typeOkB ty.kind ty.len ty.name = tyB ty := rfl
  unfold stB fitsS partsB exprsB useB
  simp only [hsf, hty, hon, len0 list, if_true, if_false, Bool.false_eq_true, reduceIte, num0 num, inle, all0, ge0, Int.reduceLE, decide_true, Bool.and_true, Bool.true_and, Bool.true_or, Bool.false_or, key_ty]
  clear hsf hty hon htb
  ac_rfl

theorem agree_8 (name on : ByteArray) (list : List ByteArray) (num : Int) (flag : Bool) (ty : Ty) (cols : List Co) (rules : List Ru) (exprs : List Ex) :
    stB ⟨8, name, on, list, num, flag, ty, cols, rules, exprs⟩ = (nmB name && (partsB 0 0 0 cols rules && (nameB on.data.toList && ((((list.length : Nat) : Int) == 0) && ((!flag) && (typeOkB ty.kind ty.len ty.name && ((num == 0) && exprsB exprs 0 0))))))) := by
  have hsf : sf 8 = ⟨[97, 108, 116, 101, 114, 32, 116, 97, 98, 108, 101], true, 0, 0, 0, 0, false, true, 0, 0, 0, 0, 0, 0⟩ := rfl
  have hty : tyEq ⟨ty.kind, ty.len, ty.name⟩ ⟨0, 0, ⟨#[]⟩⟩ = ty0 ty := rfl
  have hon : nameB on.data.toList = nmB on := rfl
  have htb : typeOkB ty.kind ty.len ty.name = tyB ty := rfl
  unfold stB fitsS partsB exprsB useB
  simp only [hsf, hon, htb, len0 list, if_true, if_false, Bool.false_eq_true, reduceIte, num0 num, inle, all0, ge0, Int.reduceLE, decide_true, Bool.and_true, Bool.true_and, Bool.true_or, Bool.false_or, ]
  clear hsf hty hon htb
  ac_rfl

theorem agree_9 (name on : ByteArray) (list : List ByteArray) (num : Int) (flag : Bool) (ty : Ty) (cols : List Co) (rules : List Ru) (exprs : List Ex) :
    stB ⟨9, name, on, list, num, flag, ty, cols, rules, exprs⟩ = (nmB name && (partsB 0 0 0 cols rules && (nameB on.data.toList && ((((list.length : Nat) : Int) == 0) && (true && (tyEq ⟨ty.kind, ty.len, ty.name⟩ ⟨0, 0, ⟨#[]⟩⟩ && ((num == 0) && exprsB exprs 0 0))))))) := by
  have hsf : sf 9 = ⟨[97, 108, 116, 101, 114, 32, 116, 97, 98, 108, 101], true, 0, 0, 0, 0, true, false, 0, 0, 0, 0, 0, 0⟩ := rfl
  have hty : tyEq ⟨ty.kind, ty.len, ty.name⟩ ⟨0, 0, ⟨#[]⟩⟩ = ty0 ty := rfl
  have hon : nameB on.data.toList = nmB on := rfl
  have htb : typeOkB ty.kind ty.len ty.name = tyB ty := rfl
  unfold stB fitsS partsB exprsB useB
  simp only [hsf, hty, hon, len0 list, if_true, if_false, Bool.false_eq_true, reduceIte, num0 num, inle, all0, ge0, Int.reduceLE, decide_true, Bool.and_true, Bool.true_and, Bool.true_or, Bool.false_or, key_ty]
  clear hsf hty hon htb
  ac_rfl

theorem agree_10 (name on : ByteArray) (list : List ByteArray) (num : Int) (flag : Bool) (ty : Ty) (cols : List Co) (rules : List Ru) (exprs : List Ex) :
    stB ⟨10, name, on, list, num, flag, ty, cols, rules, exprs⟩ = (nmB name && (partsB 0 0 0 cols rules && (nameB on.data.toList && ((((list.length : Nat) : Int) == 0) && ((!flag) && (tyEq ⟨ty.kind, ty.len, ty.name⟩ ⟨0, 0, ⟨#[]⟩⟩ && ((num == 0) && exprsB exprs 0 1))))))) := by
  have hsf : sf 10 = ⟨[97, 108, 116, 101, 114, 32, 116, 97, 98, 108, 101], true, 0, 0, 0, 0, false, false, 0, 0, 0, 0, 0, 1⟩ := rfl
  have hty : tyEq ⟨ty.kind, ty.len, ty.name⟩ ⟨0, 0, ⟨#[]⟩⟩ = ty0 ty := rfl
  have hon : nameB on.data.toList = nmB on := rfl
  have htb : typeOkB ty.kind ty.len ty.name = tyB ty := rfl
  unfold stB fitsS partsB exprsB useB
  simp only [hsf, hty, hon, len0 list, if_true, if_false, Bool.false_eq_true, reduceIte, num0 num, inle, all0, ge0, Int.reduceLE, decide_true, Bool.and_true, Bool.true_and, Bool.true_or, Bool.false_or, key_ty]
  clear hsf hty hon htb
  ac_rfl

theorem agree_11 (name on : ByteArray) (list : List ByteArray) (num : Int) (flag : Bool) (ty : Ty) (cols : List Co) (rules : List Ru) (exprs : List Ex) :
    stB ⟨11, name, on, list, num, flag, ty, cols, rules, exprs⟩ = (nmB name && (partsB 0 1 1 cols rules && (on.toList.isEmpty && ((((list.length : Nat) : Int) == 0) && ((!flag) && (tyEq ⟨ty.kind, ty.len, ty.name⟩ ⟨0, 0, ⟨#[]⟩⟩ && ((num == 0) && exprsB exprs 0 0))))))) := by
  have hsf : sf 11 = ⟨[97, 108, 116, 101, 114, 32, 116, 97, 98, 108, 101], false, 0, 0, 0, 0, false, false, 0, 0, 1, 1, 0, 0⟩ := rfl
  have hty : tyEq ⟨ty.kind, ty.len, ty.name⟩ ⟨0, 0, ⟨#[]⟩⟩ = ty0 ty := rfl
  have hon : nameB on.data.toList = nmB on := rfl
  have htb : typeOkB ty.kind ty.len ty.name = tyB ty := rfl
  unfold stB fitsS partsB exprsB useB
  simp only [hsf, hty, len0 list, if_true, if_false, Bool.false_eq_true, reduceIte, num0 num, inle, all0, ge0, Int.reduceLE, decide_true, Bool.and_true, Bool.true_and, Bool.true_or, Bool.false_or, key_11, key_ty]
  clear hsf hty hon htb
  ac_rfl

theorem agree_12 (name on : ByteArray) (list : List ByteArray) (num : Int) (flag : Bool) (ty : Ty) (cols : List Co) (rules : List Ru) (exprs : List Ex) :
    stB ⟨12, name, on, list, num, flag, ty, cols, rules, exprs⟩ = (nmB name && (partsB 0 0 0 cols rules && (nameB on.data.toList && ((((list.length : Nat) : Int) == 0) && ((!flag) && (tyEq ⟨ty.kind, ty.len, ty.name⟩ ⟨0, 0, ⟨#[]⟩⟩ && ((num == 0) && exprsB exprs 0 0))))))) := by
  have hsf : sf 12 = ⟨[97, 108, 116, 101, 114, 32, 116, 97, 98, 108, 101], true, 0, 0, 0, 0, false, false, 0, 0, 0, 0, 0, 0⟩ := rfl
  have hty : tyEq ⟨ty.kind, ty.len, ty.name⟩ ⟨0, 0, ⟨#[]⟩⟩ = ty0 ty := rfl
  have hon : nameB on.data.toList = nmB on := rfl
  have htb : typeOkB ty.kind ty.len ty.name = tyB ty := rfl
  unfold stB fitsS partsB exprsB useB
  simp only [hsf, hty, hon, len0 list, if_true, if_false, Bool.false_eq_true, reduceIte, num0 num, inle, all0, ge0, Int.reduceLE, decide_true, Bool.and_true, Bool.true_and, Bool.true_or, Bool.false_or, key_ty]
  clear hsf hty hon htb
  ac_rfl

theorem agree_13 (name on : ByteArray) (list : List ByteArray) (num : Int) (flag : Bool) (ty : Ty) (cols : List Co) (rules : List Ru) (exprs : List Ex) :
    stB ⟨13, name, on, list, num, flag, ty, cols, rules, exprs⟩ = (nmB name && (partsB 0 0 0 cols rules && (nameB on.data.toList && (namesB list 12 && (true && (tyEq ⟨ty.kind, ty.len, ty.name⟩ ⟨0, 0, ⟨#[]⟩⟩ && ((num == 0) && exprsB exprs 0 0))))))) := by
  have hsf : sf 13 = ⟨[99, 114, 101, 97, 116, 101, 32, 105, 110, 100, 101, 120], true, 1, 12, 0, 0, true, false, 0, 0, 0, 0, 0, 0⟩ := rfl
  have hty : tyEq ⟨ty.kind, ty.len, ty.name⟩ ⟨0, 0, ⟨#[]⟩⟩ = ty0 ty := rfl
  have hon : nameB on.data.toList = nmB on := rfl
  have htb : typeOkB ty.kind ty.len ty.name = tyB ty := rfl
  unfold stB fitsS partsB namesB exprsB useB
  simp only [hsf, hty, hon, if_true, if_false, Bool.false_eq_true, reduceIte, num0 num, inle, all0, ge0, Int.reduceLE, decide_true, Bool.and_true, Bool.true_and, Bool.true_or, Bool.false_or, key_ty]
  clear hsf hty hon htb
  ac_rfl

theorem agree_14 (name on : ByteArray) (list : List ByteArray) (num : Int) (flag : Bool) (ty : Ty) (cols : List Co) (rules : List Ru) (exprs : List Ex) :
    stB ⟨14, name, on, list, num, flag, ty, cols, rules, exprs⟩ = (nmB name && (partsB 0 0 0 cols rules && (on.toList.isEmpty && ((((list.length : Nat) : Int) == 0) && ((!flag) && (tyEq ⟨ty.kind, ty.len, ty.name⟩ ⟨0, 0, ⟨#[]⟩⟩ && ((num == 0) && exprsB exprs 0 0))))))) := by
  have hsf : sf 14 = ⟨[100, 114, 111, 112, 32, 105, 110, 100, 101, 120], false, 0, 0, 0, 0, false, false, 0, 0, 0, 0, 0, 0⟩ := rfl
  have hty : tyEq ⟨ty.kind, ty.len, ty.name⟩ ⟨0, 0, ⟨#[]⟩⟩ = ty0 ty := rfl
  have hon : nameB on.data.toList = nmB on := rfl
  have htb : typeOkB ty.kind ty.len ty.name = tyB ty := rfl
  unfold stB fitsS partsB exprsB useB
  simp only [hsf, hty, len0 list, if_true, if_false, Bool.false_eq_true, reduceIte, num0 num, inle, all0, ge0, Int.reduceLE, decide_true, Bool.and_true, Bool.true_and, Bool.true_or, Bool.false_or, key_ty]
  clear hsf hty hon htb
  ac_rfl

theorem agree_15 (name on : ByteArray) (list : List ByteArray) (num : Int) (flag : Bool) (ty : Ty) (cols : List Co) (rules : List Ru) (exprs : List Ex) :
    stB ⟨15, name, on, list, num, flag, ty, cols, rules, exprs⟩ = (nmB name && (partsB 0 0 0 cols rules && (nameB on.data.toList && (namesB list 12 && ((!flag) && (tyEq ⟨ty.kind, ty.len, ty.name⟩ ⟨0, 0, ⟨#[]⟩⟩ && ((num == 0) && exprsB exprs 0 1))))))) := by
  have hsf : sf 15 = ⟨[99, 114, 101, 97, 116, 101, 32, 118, 105, 101, 119], true, 1, 12, 0, 0, false, false, 0, 0, 0, 0, 0, 1⟩ := rfl
  have hty : tyEq ⟨ty.kind, ty.len, ty.name⟩ ⟨0, 0, ⟨#[]⟩⟩ = ty0 ty := rfl
  have hon : nameB on.data.toList = nmB on := rfl
  have htb : typeOkB ty.kind ty.len ty.name = tyB ty := rfl
  unfold stB fitsS partsB namesB exprsB useB
  simp only [hsf, hty, hon, if_true, if_false, Bool.false_eq_true, reduceIte, num0 num, inle, all0, ge0, Int.reduceLE, decide_true, Bool.and_true, Bool.true_and, Bool.true_or, Bool.false_or, key_ty]
  clear hsf hty hon htb
  ac_rfl

theorem agree_16 (name on : ByteArray) (list : List ByteArray) (num : Int) (flag : Bool) (ty : Ty) (cols : List Co) (rules : List Ru) (exprs : List Ex) :
    stB ⟨16, name, on, list, num, flag, ty, cols, rules, exprs⟩ = (nmB name && (partsB 0 0 0 cols rules && (on.toList.isEmpty && ((((list.length : Nat) : Int) == 0) && ((!flag) && (tyEq ⟨ty.kind, ty.len, ty.name⟩ ⟨0, 0, ⟨#[]⟩⟩ && ((num == 0) && exprsB exprs 0 0))))))) := by
  have hsf : sf 16 = ⟨[100, 114, 111, 112, 32, 118, 105, 101, 119], false, 0, 0, 0, 0, false, false, 0, 0, 0, 0, 0, 0⟩ := rfl
  have hty : tyEq ⟨ty.kind, ty.len, ty.name⟩ ⟨0, 0, ⟨#[]⟩⟩ = ty0 ty := rfl
  have hon : nameB on.data.toList = nmB on := rfl
  have htb : typeOkB ty.kind ty.len ty.name = tyB ty := rfl
  unfold stB fitsS partsB exprsB useB
  simp only [hsf, hty, len0 list, if_true, if_false, Bool.false_eq_true, reduceIte, num0 num, inle, all0, ge0, Int.reduceLE, decide_true, Bool.and_true, Bool.true_and, Bool.true_or, Bool.false_or, key_ty]
  clear hsf hty hon htb
  ac_rfl

theorem stB_out (s : St) (h : ¬ (0 ≤ s.kind ∧ s.kind ≤ 16)) : stB s = false := by
  unfold stB
  by_cases h0 : 0 ≤ s.kind
  · rw [decide_eq_false (show ¬ s.kind ≤ 16 by omega)]; simp
  · rw [decide_eq_false h0]; rfl

end Go.Proofs.YtpdcmmhhgnackaaGreatDoor

namespace Go.Proofs.YtpdcmmhhgnackaaGreatDoor
open Go.RowKit

def keptL : List ByteArray := keptW.map fun l => ⟨l.toArray⟩

theorem has_kept (s : ByteArray) : hasB keptL s = keptB s.data.toList := by
  unfold hasB keptL keptB
  rw [List.any_map]
  congr 1
  funext x
  simp only [Function.comp]
  rw [beq_flip, Lib.toList_data, Lib.toList_data]

/-- A new row of texts that is laid in one go. -/
theorem rowLit (w : World) (xs : List ByteArray) (hs : ∀ s ∈ xs, s.size ≤ maxLen) (hn : xs.length ≤ 1000000) :
    Strs (w.alloc (.cells (xs.map Value.string).toArray 9)) (some ⟨w.heap.size, 0, none⟩) xs.length xs := by
  refine ⟨Nat.le_refl _, by unfold maxLen; omega, hs, (fun h => by cases h), fun _ => ⟨w.heap.size, 0, rfl, by simp, fun i hi => ?_⟩⟩
  rw [cell_of_row _ _ _ _ _ _ (heap_alloc_new w _)]
  simp [hi]

theorem keptL_small : ∀ s ∈ keptL, s.size ≤ 10 := by unfold keptL keptW; decide

set_option maxRecDepth 100000 in
set_option maxHeartbeats 1000000 in
theorem specKept (w : World) : Calls Tryz.prog 64 #[] w fun e w' => e = .returned (.slice (some ⟨w.heap.size, 0, none⟩) 39 39) ∧ Strs w' (some ⟨w.heap.size, 0, none⟩) 39 keptL ∧ Below w.heap.size w w' := by
  have hst := Lib.hid (rowLit w keptL (fun s hs => by have := keptL_small s hs; unfold maxLen; omega) (by decide))
  go_enter Tryz.func64, Tryz.ntmps64
  go_wp2_with fail
  go_ret
  exact ⟨rfl, hst.out, (Below.refl _ _).alloc (Nat.le_refl _) _⟩

theorem specHasKept (w : World) (a : Option Addr) (s : ByteArray) (h : Strs w a 39 keptL) (v : Bool) (hv : keptB s.data.toList = v) :
    Calls Tryz.prog 63 #[.slice a 39 39, .string s] w fun e w' => e = .returned (.bool v) ∧ Below w.heap.size w w' := by
  have := specHas a 39 keptL s w h
  rw [has_kept, hv] at this
  refine this.mono ?_
  rintro e w' ⟨he, n, rfl⟩
  exact ⟨he, below_drewN (Below.refl _ _) n⟩

theorem okB_eq (b : UInt8) : okB b = (moreB b && !inI (b.toNat : Int) 65 90) := by
  rw [Bool.eq_iff_iff]
  simp only [okB, smallB, moreB, letterB, digitB, inI, Bool.or_eq_true, Bool.and_eq_true, decide_eq_true_eq, Bool.not_eq_true', Bool.and_eq_false_iff, decide_eq_false_iff_not, beq_iff_eq]
  constructor
  · intro h; omega
  · intro h; omega

theorem all_step (s : ByteArray) (k : Nat) (h : k < s.size) : (s.data.toList.take (k + 1)).all okB = ((s.data.toList.take k).all okB && okB s[k]) := by
  have hl : k < s.data.toList.length := by simpa using h
  rw [List.take_succ_eq_append_getElem hl, List.all_append]
  simp only [List.all_cons, List.all_nil, Bool.and_true]
  rfl

set_option maxHeartbeats 4000000 in
theorem specPutName (s : ByteArray) (w : World) (hs : s.size ≤ 1048576) (r : ByteArray) (hr : nameT s = r) :
    Calls Tryz.prog 24 #[.string s] w fun e w' => e = .returned (.string r) ∧ Below w.heap.size w w' := by
  by_cases h0 : s.size = 0
  · have HR : Hid (quoteT s 34 = r) := by unfold Hid; rw [← hr, nameT, plain_empty s h0]; rfl
    have hse : s.toList = [] := by rw [Lib.toList_data]; exact List.length_eq_zero_iff.1 (by simpa using h0)
    have hn : (!(s.toList == [])) = false := by rw [hse]; rfl
    have hn2 : s.toList.isEmpty = true := by rw [hse]; rfl
    clear hr hse h0
    go_enter Tryz.func24, Tryz.ntmps24
    go_wp2_with fail
    go_loop [3, 4] (fun p i => p = .bool false ∧ ∃ k : Nat, k ≤ s.size ∧ i = .int .i64 k) (fun _ i => s.size - (intOf i).toNat)
    case atStart => exact ⟨rfl, 0, Nat.zero_le _, rfl⟩
    case round =>
      obtain ⟨rfl, k, hk, rfl⟩ := hrel
      by_cases hlt : k < s.size
      · go_wp2_with fail
        exact ⟨⟨rfl, k + 1, by omega, by go_num⟩, by simp [intOf]; omega⟩
      · go_wp2_with fail
        refine (specQuote s 34 _ hs).mono ?_
        rintro e w9 ⟨rfl, b9⟩
        go_wp2_with fail
        go_ret
        exact ⟨by rw [← HR.out]; rfl, b9⟩
  · have hpos : 0 < s.size := by omega
    have hne : s.toList ≠ [] := by
      intro e
      rw [Lib.toList_data] at e
      have h2 : s.data.toList.length = 0 := by rw [e]; rfl
      have h3 : s.data.toList.length = s.size := by simp
      omega
    have hn : (!(s.toList == [])) = true := by simpa using hne
    have hn2 : s.toList.isEmpty = false := List.isEmpty_eq_false_iff.2 hne
    have hby := byte_le s[0]
    have hsz : (0 : Int) < (s.size : Int) := by omega
    cases hd : digitB s[0] with
    | true =>
      have HR : Hid (quoteT s 34 = r) := by unfold Hid; rw [← hr, nameT, plain_no s 0 hpos (.inr ⟨rfl, hd⟩)]; rfl
      have HD := Lib.hid hd
      clear hr hne h0 hd
      go_enter Tryz.func24, Tryz.ntmps24
      go_wp2_with fail
      refine (specDigitB s[0] _ true HD.out).mono ?_
      rintro e w1 ⟨rfl, rfl⟩
      go_wp2_with fail
      go_loop [3, 4] (fun p i => p = .bool false ∧ ∃ k : Nat, k ≤ s.size ∧ i = .int .i64 k) (fun _ i => s.size - (intOf i).toNat)
      case atStart => exact ⟨rfl, 0, Nat.zero_le _, rfl⟩
      case round =>
        obtain ⟨rfl, k, hk, rfl⟩ := hrel
        by_cases hlt : k < s.size
        · go_wp2_with fail
          exact ⟨⟨rfl, k + 1, by omega, by go_num⟩, by simp [intOf]; omega⟩
        · go_wp2_with fail
          refine (specQuote s 34 _ hs).mono ?_
          rintro e w9 ⟨rfl, b9⟩
          go_wp2_with fail
          go_ret
          exact ⟨by rw [← HR.out]; rfl, b9⟩
    | false =>
      have HD := Lib.hid hd
      cases hq : keptB s.data.toList with
      | true =>
        have HR : Hid (quoteT s 34 = r) := by unfold Hid; rw [← hr, nameT, hq]; simp
        have HQ := Lib.hid hq
        clear hr hne h0 hd hq
        go_enter Tryz.func24, Tryz.ntmps24
        go_wp2_with fail
        refine (specDigitB s[0] _ false HD.out).mono ?_
        rintro e w1 ⟨rfl, rfl⟩
        go_wp2_with fail
        refine (specKept _).mono ?_
        rintro e w2 ⟨rfl, st2, b2⟩
        have HS := Lib.hid st2
        clear st2
        go_wp2_with fail
        refine (specHasKept _ _ s HS.out true HQ.out).mono ?_
        rintro e w3 ⟨rfl, b3⟩
        have B3 := b2.trans (b3.mono b2.size)
        clear HS b2 b3
        go_wp2_with fail
        go_loop [3, 4] (fun p i => p = .bool false ∧ ∃ k : Nat, k ≤ s.size ∧ i = .int .i64 k) (fun _ i => s.size - (intOf i).toNat)
        case atStart => exact ⟨rfl, 0, Nat.zero_le _, rfl⟩
        case round =>
          obtain ⟨rfl, k, hk, rfl⟩ := hrel
          by_cases hlt : k < s.size
          · go_wp2_with fail
            exact ⟨⟨rfl, k + 1, by omega, by go_num⟩, by simp [intOf]; omega⟩
          · go_wp2_with fail
            refine (specQuote s 34 _ hs).mono ?_
            rintro e w9 ⟨rfl, b9⟩
            go_wp2_with fail
            go_ret
            exact ⟨by rw [← HR.out]; rfl, B3.trans (b9.mono B3.size)⟩
      | false =>
        have HR : Hid ((if s.data.toList.all okB then s else quoteT s 34) = r) := by
          unfold Hid
          have he : s.data.toList.isEmpty = false := by rw [← Lib.toList_data]; exact hn2
          rw [← hr, nameT, hq, plainB, he, head_get s hpos, hd]
          simp
        have HQ := Lib.hid hq
        clear hr hne h0 hd hq
        go_enter Tryz.func24, Tryz.ntmps24
        go_wp2_with fail
        refine (specDigitB s[0] _ false HD.out).mono ?_
        rintro e w1 ⟨rfl, rfl⟩
        go_wp2_with fail
        refine (specKept _).mono ?_
        rintro e w2 ⟨rfl, st2, b2⟩
        have HS := Lib.hid st2
        clear st2
        go_wp2_with fail
        refine (specHasKept _ _ s HS.out false HQ.out).mono ?_
        rintro e w3 ⟨rfl, b3⟩
        have B3 := b2.trans (b3.mono b2.size)
        clear HS b2 b3
        go_wp2_with fail
        go_loop [3, 4] (fun p i => ∃ (c : Bool) (k : Nat), p = .bool c ∧ Hid (c = (s.data.toList.take k).all okB) ∧ k ≤ s.size ∧ i = .int .i64 k) (fun _ i => s.size - (intOf i).toNat)
        case atStart => exact ⟨true, 0, rfl, rfl, Nat.zero_le _, rfl⟩
        case round =>
          obtain ⟨c, k, rfl, hc, hk, rfl⟩ := hrel
          by_cases hlt : k < s.size
          · have hbk := byte_le s[k]
            cases c with
            | false =>
              have HN : Hid (false = (s.data.toList.take (k + 1)).all okB) := by unfold Hid; rw [all_step s k hlt, ← hc.out]; rfl
              go_wp2_with fail
              exact ⟨⟨false, k + 1, rfl, HN, by omega, by go_num⟩, by simp [intOf]; omega⟩
            | true =>
              cases hm : moreB s[k] with
              | false =>
                have HN : Hid (false = (s.data.toList.take (k + 1)).all okB) := by unfold Hid; rw [all_step s k hlt, ← hc.out, okB_eq, hm]; rfl
                have HM := Lib.hid hm
                clear hm
                go_wp2_with fail
                refine (specMore s[k] _ false HM.out).mono ?_
                rintro e w4 ⟨rfl, rfl⟩
                go_wp2_with fail
                exact ⟨⟨false, k + 1, rfl, HN, by omega, by go_num⟩, by simp [intOf]; omega⟩
              | true =>
                have HN : Hid ((!inI (s[k].toNat : Int) 65 90) = (s.data.toList.take (k + 1)).all okB) := by unfold Hid; rw [all_step s k hlt, ← hc.out, okB_eq, hm]; simp
                have HM := Lib.hid hm
                clear hm
                go_wp2_with fail
                refine (specMore s[k] _ true HM.out).mono ?_
                rintro e w4 ⟨rfl, rfl⟩
                go_wp2_with fail
                refine (specIn _ 65 90 _).mono ?_
                rintro e w4 ⟨rfl, rfl⟩
                go_wp2_with fail
                exact ⟨⟨_, k + 1, rfl, HN, by omega, by go_num⟩, by simp [intOf]; omega⟩
          · have hke : k = s.size := by omega
            have hall : c = s.data.toList.all okB := by
              rw [hc.out, hke, List.take_of_length_le (by simp)]
            cases c with
            | true =>
              have HR2 : Hid (s = r) := by unfold Hid; rw [← HR.out, ← hall]; rfl
              clear hall hke
              go_wp2_with fail
              go_ret
              exact ⟨by rw [← HR2.out]; rfl, B3⟩
            | false =>
              have HR2 : Hid (quoteT s 34 = r) := by unfold Hid; rw [← HR.out, ← hall]; rfl
              clear hall hke
              go_wp2_with fail
              refine (specQuote s 34 _ hs).mono ?_
              rintro e w9 ⟨rfl, b9⟩
              go_wp2_with fail
              go_ret
              exact ⟨by rw [← HR2.out]; rfl, B3.trans (b9.mono B3.size)⟩

end Go.Proofs.YtpdcmmhhgnackaaGreatDoor

namespace Go.Proofs.YtpdcmmhhgnackaaGreatDoor
open Go.RowKit

theorem Tryz.sizeBuilder : (Tryz.prog.info? 137).map (·.size) = some 2 := by kernel_rfl
theorem Tryz.liesBuilder : liesAt Tryz.prog Tryz.prog.depth 137 (2 / Tryz.prog.cellsOf 137) 0 137 1 = true := by kernel_rfl

set_option maxRecDepth 100000 in
set_option maxHeartbeats 1000000 in
theorem copyCheckUsed (b : Nat) (w : World) (h0 : w.cell? ⟨b, 0, none⟩ = some (.pointer (some ⟨b, 0, none⟩))) :
    Calls Tryz.prog 140 #[.pointer (some ⟨b, 0, none⟩)] w fun e w' => e = .returned (.tuple #[]) ∧ w = w' := by
  obtain ⟨j, hj, _⟩ := Option.map_eq_some_iff.1 Tryz.sizeBuilder
  go_enter Tryz.func140, Tryz.ntmps140
  go_wp2
  rw [Lib.run_neq_ptr_same w _ Tryz.underlying135 hj]
  go_wp2
  go_end0
  exact ⟨rfl, rfl⟩

set_option maxRecDepth 100000 in
set_option maxHeartbeats 1000000 in
theorem copyCheckFresh (b : Nat) (w : World) (h0 : w.cell? ⟨b, 0, none⟩ = some (.pointer none)) (hsh : w.shape? b = some (137, 2)) (hfz : w.frozen? ⟨b, 0, none⟩ = false) :
    Calls Tryz.prog 140 #[.pointer (some ⟨b, 0, none⟩)] w fun e w' => e = .returned (.tuple #[]) ∧ w.setCell ⟨b, 0, none⟩ (.pointer (some ⟨b, 0, none⟩)) = w' := by
  obtain ⟨j, hj, hjs⟩ := Option.map_eq_some_iff.1 Tryz.sizeBuilder
  go_enter Tryz.func140, Tryz.ntmps140
  go_wp2
  rw [Lib.run_to_unsafe w ⟨b, 0, none⟩ Tryz.underlying135 Tryz.underlying162 hj (by rw [hjs]; decide) hsh (Nat.zero_lt_succ 1)]
  simp only [Result.andThen]
  rw [Oper.upon_value]
  go_wp2
  rw [run_callFunc_extern Tryz.func149 (by kernel_rfl) (by kernel_rfl) (by kernel_rfl) (e := Extern.AbiNoEscape.same) (by kernel_rfl)]
  rw [Lib.run_noEscape]
  simp only [Result.andThen]
  rw [Oper.upon_value]
  go_wp2
  rw [Lib.run_from_unsafe w ⟨b, 0, none⟩ Tryz.underlying162 Tryz.underlying135 hj hsh Tryz.liesBuilder]
  simp only [Result.andThen]
  rw [Oper.upon_value]
  go_wp2
  go_end0
  exact ⟨rfl, rfl⟩

/-- The builder in block b holds the bytes l in a row (a, c) that lies behind it. -/
def Bld (w : World) (b : Nat) (a : Option Addr) (c : Nat) (l : List UInt8) : Prop :=
  ∃ p, (p = .pointer none ∨ p = .pointer (some ⟨b, 0, none⟩)) ∧ w.heap[b]? = some (.cells #[p, .slice a l.length c] 137 (0, 0)) ∧ OwnB w (b + 1) a c l

/-- Of what was there block b alone has turned, and the row. -/
structure Wrote (b : Nat) (row : Option Nat) (w w' : World) : Prop where
  os : w'.os = w.os
  tape : w'.tape = w.tape
  output : w'.output = w.output
  size : w.heap.size ≤ w'.heap.size
  block : ∀ k, k < w.heap.size → k ≠ b → some k ≠ row → w'.heap[k]? = w.heap[k]?

theorem Bld.lt {w : World} {b : Nat} {a : Option Addr} {c : Nat} {l : List UInt8} (h : Bld w b a c l) : b < w.heap.size := by
  obtain ⟨p, _, hg, _⟩ := h
  rcases Nat.lt_or_ge b w.heap.size with hlt | hge
  · exact hlt
  · rw [Array.getElem?_eq_none hge] at hg; cases hg

theorem Bld.own {w : World} {b : Nat} {a : Option Addr} {c : Nat} {l : List UInt8} (h : Bld w b a c l) : OwnB w (b + 1) a c l := by
  obtain ⟨_, _, _, h⟩ := h; exact h

theorem Bld.new (w : World) : Bld (w.alloc (.cells #[.pointer none, .slice none 0 0] 137)) w.heap.size none 0 [] :=
  ⟨_, .inl rfl, heap_alloc_new _ _, World.ownsRow_nil _ _ _ _⟩

theorem Bld.below {w w' : World} {b : Nat} {a : Option Addr} {c : Nat} {l : List UInt8} (h : Bld w b a c l) (hb : Below w.heap.size w w') : Bld w' b a c l := by
  have hlt := h.lt
  obtain ⟨p, hp, hg, ho⟩ := h
  exact ⟨p, hp, (hb.block b hlt).trans hg, ho.below hb⟩

theorem Bld.grown {w w' : World} {b : Nat} {a : Option Addr} {c : Nat} {l : List UInt8} {row : Option Nat} (h : Bld w b a c l) (hb : w.grownBy w' row) (h1 : row ≠ some b) (h2 : ∀ g, (Value.slice a l.length c).ownBlock = some g → row ≠ some g) : Bld w' b a c l := by
  have hlt := h.lt
  obtain ⟨p, hp, hg, ho⟩ := h
  exact ⟨p, hp, (hb.block b hlt (fun e => h1 e.symm)).trans hg, ho.kept hb h2⟩

theorem Wrote.below {b : Nat} {w w' : World} {a : Option Addr} {c : Nat} {l : List UInt8} (hB : Bld w b a c l) (h : Wrote b (Value.slice a l.length c).ownBlock w w') {w0 : World} {B : Nat} (h0 : Below B w0 w) (hb : B ≤ b) : Below B w0 w' := by
  have hlt := hB.lt
  refine ⟨h.os.trans h0.os, h.tape.trans h0.tape, h.output.trans h0.output, Nat.le_trans h0.size h.size, fun k hk => ?_⟩
  rw [h.block k (by omega) (by omega) (fun e => by have := (hB.own.lt e.symm).1; omega)]
  exact h0.block k hk

theorem own_shape {w : World} {B : Nat} {a : Option Addr} {c : Nat} {l : List UInt8} (h : OwnB w B a c l) (h0 : 0 < l.length) : ∃ g, a = some ⟨g, 0, none⟩ ∧ (Value.slice a l.length c).ownBlock = some g := by
  unfold OwnB at h
  rcases h.2 with ⟨_, hn⟩ | ⟨g, cap, cur, hv, _⟩
  · omega
  · simp only [Value.slice.injEq] at hv
    obtain ⟨rfl, _, rfl⟩ := hv
    exact ⟨g, rfl, rfl⟩

theorem infoB_ne : 137 ≠ 5 := by decide

set_option maxHeartbeats 2000000 in
/-- WriteByte, where the builder knows its address. -/
theorem writeByteUsed (b : Nat) (a : Option Addr) (c : Nat) (l : List UInt8) (y : UInt8) (w : World) (hg : w.heap[b]? = some (.cells #[.pointer (some ⟨b, 0, none⟩), .slice a l.length c] 137 (0, 0))) (hown : OwnB w (b + 1) a c l) (hn : l.length + 1 ≤ 140737488355328) :
    Calls Tryz.prog 119 #[.pointer (some ⟨b, 0, none⟩), .int .u8 (y.toNat : Int)] w fun e w' => e = .returned .nilIface ∧ ∃ a' c' l', Hid (l' = l ++ [y]) ∧ Bld w' b a' c' l' ∧ Wrote b (Value.slice a l.length c).ownBlock w w' ∧ ∀ g, (Value.slice a' l'.length c').ownBlock = some g → (Value.slice a l.length c).ownBlock = some g ∨ w.heap.size ≤ g := by
  obtain ⟨i0, hi0, hz0, hz1, hz2⟩ := info_parts Tryz.infoByte
  have hlt : b < w.heap.size := by
    rcases Nat.lt_or_ge b w.heap.size with hlt | hge
    · exact hlt
    · rw [Array.getElem?_eq_none hge] at hg; cases hg
  have c0 : w.cell? ⟨b, 0, none⟩ = some (.pointer (some ⟨b, 0, none⟩)) := by rw [cell_of_row _ _ _ _ _ _ hg]; rfl
  have c1 : w.cell? ⟨b, 1, none⟩ = some (.slice a l.length c) := by rw [cell_of_row _ _ _ _ _ _ hg]; rfl
  have hby := byte_le y
  have HG := Lib.hid hg
  clear hg
  go_enter Tryz.func119, Tryz.ntmps119
  go_wp2_with (first
    | (go_at_call 140; refine (copyCheckUsed b w c0).mono ?_; rintro e w1 ⟨rfl, rfl⟩)
    | (at_builtin; refine wpAppendByte rfl (.tmp 11) (.tmp 13) rfl i0 hi0 hz0 hz1 hz2 (b + 1) a c l w.heap.size y rfl (hown.alloc _) rfl (by simp) hn (by simp; omega) ?_; intro a2 c2 w2 l2 hl2 hown2 hg2 hat; have hb2 : w2.heap[b]? = some (.cells #[.pointer (some ⟨b, 0, none⟩), .slice a l.length c] 137 (0, 0)) := (by rw [hg2.block b (by simp; omega) (fun e => by have := (hown.lt e.symm).1; omega), Below.heap_alloc _ _ _ hlt]; exact HG.out); have d1 : w2.cell? ⟨b, 1, none⟩ = some (.slice a l.length c) := (by rw [cell_of_row _ _ _ _ _ _ hb2]; rfl); have f1 : w2.frozen? ⟨b, 1, none⟩ = false := frozen_of_row _ _ _ _ _ hb2; have HB2 := Lib.hid hb2; clear hb2))
  go_ret
  have hset := heap_setCell_same w2 b 1 _ _ (.slice a2 l2.length c2) HB2.out
  have own3 : OwnB (w2.setCell ⟨b, 1, none⟩ (.slice a2 l2.length c2)) (b + 1) a2 c2 l2 := hown2.kept (row := some b) ⟨rfl, rfl, rfl, by simp [World.setCell], fun k _ hne => Below.heap_setCell _ _ _ _ (fun e => hne (by rw [e]))⟩ (fun g hgo e => by cases e; have := (hown2.lt hgo).1; omega)
  refine ⟨rfl, a2, c2, l2, hl2, ⟨_, .inr rfl, hset, own3⟩, ⟨?_, ?_, ?_, ?_, ?_⟩, ?_⟩
  · exact hg2.os
  · exact hg2.tape
  · exact hg2.output
  · have := hg2.size; simp [World.setCell] at this ⊢; omega
  · intro k hk hkb hkr
    rw [Below.heap_setCell _ _ _ _ hkb, hg2.block k (by simp; omega) hkr, Below.heap_alloc _ _ _ hk]
  · intro g hgo
    rcases hat with e | e
    · left; rw [← e]; exact hgo
    · right; rw [e] at hgo; cases hgo; simp

set_option maxHeartbeats 2000000 in
theorem writeByte (b : Nat) (a : Option Addr) (c : Nat) (l : List UInt8) (y : UInt8) (w : World) (hB : Bld w b a c l) (hn : l.length + 1 ≤ 140737488355328) :
    Calls Tryz.prog 119 #[.pointer (some ⟨b, 0, none⟩), .int .u8 (y.toNat : Int)] w fun e w' => e = .returned .nilIface ∧ ∃ a' c' l', Hid (l' = l ++ [y]) ∧ Bld w' b a' c' l' ∧ Wrote b (Value.slice a l.length c).ownBlock w w' ∧ ∀ g, (Value.slice a' l'.length c').ownBlock = some g → (Value.slice a l.length c).ownBlock = some g ∨ w.heap.size ≤ g := by
  have hlt := hB.lt
  obtain ⟨p, rfl | rfl, hg, hown⟩ := hB
  rotate_left
  · exact writeByteUsed b a c l y w hg hown hn
  obtain ⟨i0, hi0, hz0, hz1, hz2⟩ := info_parts Tryz.infoByte
  have c0 : w.cell? ⟨b, 0, none⟩ = some (.pointer none) := by rw [cell_of_row _ _ _ _ _ _ hg]; rfl
  have f0 : w.frozen? ⟨b, 0, none⟩ = false := frozen_of_row _ _ _ _ _ hg
  have hsh : w.shape? b = some (137, 2) := by simp [World.shape?, hg]
  have hby := byte_le y
  obtain ⟨W, hW⟩ : ∃ W, W = w.setCell ⟨b, 0, none⟩ (.pointer (some ⟨b, 0, none⟩)) := ⟨_, rfl⟩
  have HG1 : W.heap[b]? = some (.cells #[.pointer (some ⟨b, 0, none⟩), .slice a l.length c] 137 (0, 0)) := by rw [hW]; exact heap_setCell_same w b 0 _ _ _ hg
  have hgrW : w.grownBy W (some b) := by rw [hW]; exact ⟨rfl, rfl, rfl, by simp [World.setCell], fun k _ hne => Below.heap_setCell _ _ _ _ (fun e => hne (by rw [e]))⟩
  have hownW : OwnB W (b + 1) a c l := hown.kept hgrW (fun g hgo e => by cases e; have := (hown.lt hgo).1; omega)
  have hWs : W.heap.size = w.heap.size := by rw [hW]; simp [World.setCell]
  have hltW : b < W.heap.size := by omega
  have c1 : W.cell? ⟨b, 1, none⟩ = some (.slice a l.length c) := by rw [cell_of_row _ _ _ _ _ _ HG1]; rfl
  have HW := Lib.hid hW
  have HG := Lib.hid HG1
  have HWs := Lib.hid hWs
  clear HG1 hg hW hWs
  go_enter Tryz.func119, Tryz.ntmps119
  go_wp2_with (first
    | (go_at_call 140; refine (copyCheckFresh b w c0 hsh f0).mono ?_; rintro e w1 ⟨rfl, hw1⟩; rw [← HW.out] at hw1; subst hw1; clear c0 f0 hsh)
    | (at_builtin; refine wpAppendByte rfl (.tmp 11) (.tmp 13) rfl i0 hi0 hz0 hz1 hz2 (b + 1) a c l W.heap.size y rfl (hownW.alloc _) rfl (by simp) hn (by simp; omega) ?_; intro a2 c2 w2 l2 hl2 hown2 hg2 hat; have hb2 : w2.heap[b]? = some (.cells #[.pointer (some ⟨b, 0, none⟩), .slice a l.length c] 137 (0, 0)) := (by rw [hg2.block b (by simp; omega) (fun e => by have := (hownW.lt e.symm).1; omega), Below.heap_alloc _ _ _ hltW]; exact HG.out); have d1 : w2.cell? ⟨b, 1, none⟩ = some (.slice a l.length c) := (by rw [cell_of_row _ _ _ _ _ _ hb2]; rfl); have f1 : w2.frozen? ⟨b, 1, none⟩ = false := frozen_of_row _ _ _ _ _ hb2; have HB2 := Lib.hid hb2; clear hb2))
  go_ret
  have hset := heap_setCell_same w2 b 1 _ _ (.slice a2 l2.length c2) HB2.out
  have own3 : OwnB (w2.setCell ⟨b, 1, none⟩ (.slice a2 l2.length c2)) (b + 1) a2 c2 l2 := hown2.kept (row := some b) ⟨rfl, rfl, rfl, by simp [World.setCell], fun k _ hne => Below.heap_setCell _ _ _ _ (fun e => hne (by rw [e]))⟩ (fun g hgo e => by cases e; have := (hown2.lt hgo).1; omega)
  have hWs := HWs.out
  refine ⟨rfl, a2, c2, l2, hl2, ⟨_, .inr rfl, hset, own3⟩, ⟨?_, ?_, ?_, ?_, ?_⟩, ?_⟩
  · exact hg2.os.trans hgrW.os
  · exact hg2.tape.trans hgrW.tape
  · exact hg2.output.trans hgrW.output
  · have := hg2.size; simp [World.setCell] at this ⊢; omega
  · intro k hk hkb hkr
    rw [Below.heap_setCell _ _ _ _ hkb, hg2.block k (by simp; omega) hkr, Below.heap_alloc _ _ _ (by omega), hgrW.block k hk (fun e => hkb (by cases e; rfl))]
  · intro g hgo
    rcases hat with e | e
    · left; rw [← e]; exact hgo
    · right; rw [e] at hgo; cases hgo; simp; omega

theorem builderString (b : Nat) (a : Option Addr) (c : Nat) (l : List UInt8) (w : World) (hB : Bld w b a c l) :
    Calls Tryz.prog 120 #[.pointer (some ⟨b, 0, none⟩)] w fun e w' => e = .returned (.string ⟨l.toArray⟩) ∧ Below b w w' := by
  have hlt := hB.lt
  obtain ⟨p, hp, hg, hown⟩ := hB
  have hl : (Lib.byteCells l).length = l.length := by simp [Lib.byteCells]
  have hAt : Lib.BuilderAt 137 5 b b p (Lib.byteCells l) w := by
    refine ⟨Nat.le_refl _, _, hg, ?_, fun e => by have := (hown.lt e).1; omega⟩
    rw [hl]
    unfold OwnB at hown
    refine ⟨hown.1, ?_⟩
    rcases hown.2 with h2 | ⟨g, cap, cur, hv, hb, r⟩
    · exact .inl h2
    · exact .inr ⟨g, cap, cur, hv, by omega, r⟩
  refine Tryz.Builder_String_any b b l w ?_ (by omega)
  rcases hp with rfl | rfl
  · exact .inl hAt
  · exact .inr hAt

end Go.Proofs.YtpdcmmhhgnackaaGreatDoor

namespace Go.Proofs.YtpdcmmhhgnackaaGreatDoor
open Go.RowKit

set_option maxHeartbeats 2000000 in
theorem implQuote (s : ByteArray) (y : UInt8) (w : World) (hs : s.size ≤ 1048576) :
    Calls Tryz.prog 79 #[.string s, .int .u8 (y.toNat : Int)] w fun e w' => e = .returned (.string (quoteT s y)) ∧ Below w.heap.size w w' := by
  have hy := byte_le y
  go_enter Tryz.func79, Tryz.ntmps79
  go_wp2_with fail
  refine (writeByte w.heap.size none 0 [] y _ (Bld.new w) (by simp)).mono ?_
  rintro e w1 ⟨rfl, a1, c1, l1, hl1, hB1, hW1, _⟩
  have hb1 : Below w.heap.size w w1 := hW1.below (Bld.new w) ((Below.refl _ _).alloc (Nat.le_refl _) _) (Nat.le_refl _)
  obtain ⟨W, cap, hcv, hbW, hrW, hcap, hcell⟩ := convTextEx w1 s
  have hne1 : ∀ g, (Value.slice a1 l1.length c1).ownBlock = some g → g ≠ w1.heap.size := fun g hg => by have := (hB1.own.lt hg).2; omega
  have hltB := hB1.lt
  have HC := Lib.hid hcell
  have HL : Hid (l1 = y :: dbl y (s.data.toList.take 0)) := hl1
  have HN := Lib.hid hne1
  generalize hR : w1.heap.size = R at *
  have hBW := hB1.below (hR ▸ hbW)
  have hbw : Below w.heap.size w W := hb1.trans ((hR ▸ hbW : Below w1.heap.size w1 W).mono hb1.size)
  have HBW := Lib.hid hBW
  have HR := Lib.hid hR
  clear hl1 hB1 hW1 hb1 hcell hne1 hR hBW hbW
  go_wp2_with fail
  go_loopw [13] (fun i wr => ∃ (k : Nat) (a : Option Addr) (c : Nat) (l : List UInt8), k ≤ s.size ∧ i = .int .i64 k ∧ Hid (l = y :: dbl y (s.data.toList.take k)) ∧ Bld wr w.heap.size a c l ∧ Hid (wr.heap[R]? = W.heap[R]?) ∧ R < wr.heap.size ∧ Hid (∀ g, (Value.slice a l.length c).ownBlock = some g → g ≠ R) ∧ Below w.heap.size w wr) (fun i _ => s.size - (intOf i).toNat)
  case atStart => exact ⟨0, a1, c1, l1, Nat.zero_le _, rfl, HL, HBW.out, rfl, hrW, HN, hbw⟩
  case round =>
    obtain ⟨k, a, c, l, hk, rfl, hl, hB, hrow, hr, hne, hb⟩ := hrel
    have hlk : l.length ≤ 3000000 := by
      have h1 := dbl_len y (s.data.toList.take k)
      have h2 : (s.data.toList.take k).length ≤ k := List.length_take_le _ _
      rw [hl.out]
      simp only [List.length_cons]
      omega
    by_cases hlt : k < s.size
    · have hc : wr.cell? ⟨R, k, none⟩ = some (.int .u8 (s[k].toNat : Int)) := (World.cell?_of_block (w := W) (w' := wr) (a := ⟨R, k, none⟩) hrow.out).trans (HC.out k hlt)
      have hby := byte_le s[k]
      by_cases he : s[k] = y
      · have HS := Lib.hid (dbl_eq y s k hlt he)
        have ht := byte_eq he
        clear he
        go_wp2_with fail
        refine (writeByte w.heap.size a c l y _ hB (by omega)).mono ?_
        rintro e w2 ⟨rfl, a2, c2, l2, hl2, hB2, hW2, hn2⟩
        have hr2 : R < w2.heap.size := Nat.lt_of_lt_of_le hr hW2.size
        have hrow2 : Hid (w2.heap[R]? = W.heap[R]?) := (hW2.block R hr (by omega) (fun e => hne.out R e.symm rfl)).trans hrow.out
        have hne2 : Hid (∀ g, (Value.slice a2 l2.length c2).ownBlock = some g → g ≠ R) := fun g hg => by
          rcases hn2 g hg with h | h
          · exact hne.out g h
          · omega
        have hb2 := hW2.below hB hb (Nat.le_refl _)
        have hlk2 : l2.length ≤ 3000001 := by rw [hid_len hl2]; omega
        have HW2 := Lib.hid hW2
        have HN2 := Lib.hid hn2
        clear hW2 hn2
        go_wp2_with fail
        refine (writeByte w.heap.size a2 c2 l2 s[k] _ hB2 (by omega)).mono ?_
        rintro e w3 ⟨rfl, a3, c3, l3, hl3, hB3, hW3, hn3⟩
        have hr3 : R < w3.heap.size := Nat.lt_of_lt_of_le hr2 hW3.size
        have hrow3 : Hid (w3.heap[R]? = W.heap[R]?) := (hW3.block R hr2 (by omega) (fun e => hne2.out R e.symm rfl)).trans hrow2.out
        have hne3 : Hid (∀ g, (Value.slice a3 l3.length c3).ownBlock = some g → g ≠ R) := fun g hg => by
          rcases hn3 g hg with h | h
          · exact hne2.out g h
          · omega
        have hb3 := hW3.below hB2 hb2 (Nat.le_refl _)
        have HW3 := Lib.hid hW3
        have HN3 := Lib.hid hn3
        clear hW3 hn3
        go_wp2_with fail
        go_roundw
        case rel => exact ⟨k + 1, a3, c3, l3, by omega, by go_num, by unfold Hid; rw [hl3.out, hl2.out, hl.out, HS.out]; simp, hB3, hrow3, hr3, hne3, hb3⟩
        case measure => simp [intOf]; omega
      · have HS := Lib.hid (dbl_ne y s k hlt he)
        have ht := byte_ne he
        clear he
        go_wp2_with fail
        refine (writeByte w.heap.size a c l s[k] _ hB (by omega)).mono ?_
        rintro e w2 ⟨rfl, a2, c2, l2, hl2, hB2, hW2, hn2⟩
        have hr2 : R < w2.heap.size := Nat.lt_of_lt_of_le hr hW2.size
        have hrow2 : Hid (w2.heap[R]? = W.heap[R]?) := (hW2.block R hr (by omega) (fun e => hne.out R e.symm rfl)).trans hrow.out
        have hne2 : Hid (∀ g, (Value.slice a2 l2.length c2).ownBlock = some g → g ≠ R) := fun g hg => by
          rcases hn2 g hg with h | h
          · exact hne.out g h
          · omega
        have hb2 := hW2.below hB hb (Nat.le_refl _)
        have HW2 := Lib.hid hW2
        have HN2 := Lib.hid hn2
        clear hW2 hn2
        go_wp2_with fail
        go_roundw
        case rel => exact ⟨k + 1, a2, c2, l2, by omega, by go_num, by unfold Hid; rw [hl2.out, hl.out, HS.out]; simp, hB2, hrow2, hr2, hne2, hb2⟩
        case measure => simp [intOf]; omega
    · obtain rfl : k = s.size := by omega
      have HQ : Hid (quoteL y s.data.toList = l ++ [y]) := by
        unfold Hid
        rw [hl.out, List.take_of_length_le (by simp)]
        simp [quoteL, dbl]
      go_wp2_with fail
      refine (writeByte w.heap.size a c l y _ hB (by omega)).mono ?_
      rintro e w2 ⟨rfl, a2, c2, l2, hl2, hB2, hW2, hn2⟩
      have hb2 := hW2.below hB hb (Nat.le_refl _)
      have HW2 := Lib.hid hW2
      have HN2 := Lib.hid hn2
      clear hW2 hn2
      go_wp2_with fail
      refine (builderString w.heap.size a2 c2 l2 _ hB2).mono ?_
      rintro e w3 ⟨rfl, hb3⟩
      go_wp2_with fail
      go_ret
      exact ⟨by rw [quoteT, HQ.out, ← hl2.out]; rfl, hb2.trans hb3⟩

end Go.Proofs.YtpdcmmhhgnackaaGreatDoor

namespace Go.Proofs.YtpdcmmhhgnackaaGreatDoor
open Go.RowKit

set_option maxHeartbeats 2000000 in
theorem implPlain (s : ByteArray) (w : World) (hs : s.size ≤ 1048576) (v : Bool) (hv : plainB s.data.toList = v) :
    Calls Tryz.prog 76 #[.string s] w fun e w' => e = .returned (.bool v) ∧ Below w.heap.size w w' := by
  have HV := Lib.hid hv
  clear hv
  obtain ⟨W, cap, hcv, hbW, hrW, hcap, hcell⟩ := convTextEx w s
  have HC := Lib.hid hcell
  have HB := Lib.hid hbW
  clear hcell hbW hcap
  go_enter Tryz.func76, Tryz.ntmps76
  go_wp2_with fail
  go_loop [10] (fun i => ∃ k : Nat, k ≤ s.size ∧ i = .int .i64 k ∧ Hid (∀ (j : Nat) (hj : j < s.size), j < k → okB s[j] = true ∧ (j = 0 → digitB s[j] = false))) (fun i => s.size - (intOf i).toNat)
  case atStart => exact ⟨0, Nat.zero_le _, rfl, fun j _ h => by omega⟩
  case round =>
    obtain ⟨k, hk, rfl, hall⟩ := hrel
    by_cases hlt : k < s.size
    · have hc : W.cell? ⟨w.heap.size, k, none⟩ = some (.int .u8 (s[k].toNat : Int)) := HC.out k hlt
      have hby := byte_le s[k]
      have next : okB s[k] = true → (k = 0 → digitB s[k] = false) → Hid (∀ (j : Nat) (hj : j < s.size), j < k + 1 → okB s[j] = true ∧ (j = 0 → digitB s[j] = false)) := fun h1 h2 j hj hjk => by
        by_cases e : j = k
        · subst e; exact ⟨h1, h2⟩
        · exact hall.out j hj (by omega)
      have stop : okB s[k] = false ∨ (k = 0 ∧ digitB s[k] = true) → Hid (v = false) := fun h => by unfold Hid; rw [← HV.out]; exact plain_no s k hlt h
      have h0k : (0 : Int) ≤ (k : Int) := by omega
      have hkl : (k : Int) < (s.size : Int) := by omega
      by_cases a1 : s[k].toNat = 95
      · have HN := next (ok_of_small (.inl a1)).1 (fun _ => (ok_of_small (.inl a1)).2)
        have f1 : ((s[k].toNat : Int) == 95) = true := by simp [a1]
        have f2 : decide ((48 : Int) ≤ (s[k].toNat : Int)) = true := by simp; omega
        have f3 : decide ((s[k].toNat : Int) ≤ 57) = false := by simp; omega
        clear next stop a1
        go_wp2_with fail
        exact ⟨⟨k + 1, by omega, by go_num, HN⟩, by simp [intOf]; omega⟩
      · have f1 : ((s[k].toNat : Int) == 95) = false := by rw [beq_eq_false_iff_ne]; omega
        by_cases a2 : 97 ≤ s[k].toNat
        · have f2 : decide ((97 : Int) ≤ (s[k].toNat : Int)) = true := by simp; omega
          have f4 : decide ((48 : Int) ≤ (s[k].toNat : Int)) = true := by simp; omega
          have f5 : decide ((s[k].toNat : Int) ≤ 57) = false := by simp; omega
          by_cases a3 : s[k].toNat ≤ 122
          · have f3 : decide ((s[k].toNat : Int) ≤ 122) = true := by simp; omega
            have HN := next (ok_of_small (.inr ⟨a2, a3⟩)).1 (fun _ => (ok_of_small (.inr ⟨a2, a3⟩)).2)
            clear next stop a1 a2 a3
            go_wp2_with fail
            exact ⟨⟨k + 1, by omega, by go_num, HN⟩, by simp [intOf]; omega⟩
          · have f3 : decide ((s[k].toNat : Int) ≤ 122) = false := by simp; omega
            have HN := stop (.inl (ok_no a1 (by omega) (by omega)))
            clear next stop a1 a2 a3
            cases f6 : ((k : Int) == 0) with
            | true =>
              go_wp2_with fail
              go_ret
              exact ⟨by rw [HN.out]; rfl, HB.out⟩
            | false =>
              go_wp2_with fail
              go_ret
              exact ⟨by rw [HN.out]; rfl, HB.out⟩
        · have f2 : decide ((97 : Int) ≤ (s[k].toNat : Int)) = false := by simp; omega
          by_cases a3 : 48 ≤ s[k].toNat
          · have f3 : decide ((48 : Int) ≤ (s[k].toNat : Int)) = true := by simp; omega
            by_cases a4 : s[k].toNat ≤ 57
            · have f4 : decide ((s[k].toNat : Int) ≤ 57) = true := by simp; omega
              have hd := ok_of_digit ⟨a3, a4⟩
              cases f6 : ((k : Int) == 0) with
              | true =>
                have HN := stop (.inr ⟨by simpa using f6, hd.2⟩)
                clear next stop a1 a2 a3 a4 hd
                go_wp2_with fail
                go_ret
                exact ⟨by rw [HN.out]; rfl, HB.out⟩
              | false =>
                have HN := next hd.1 (fun e => by subst e; simp at f6)
                clear next stop a1 a2 a3 a4 hd
                go_wp2_with fail
                exact ⟨⟨k + 1, by omega, by go_num, HN⟩, by simp [intOf]; omega⟩
            · have f4 : decide ((s[k].toNat : Int) ≤ 57) = false := by simp; omega
              have HN := stop (.inl (ok_no a1 (by omega) (by omega)))
              clear next stop a1 a2 a3 a4
              cases f6 : ((k : Int) == 0) with
              | true =>
                go_wp2_with fail
                go_ret
                exact ⟨by rw [HN.out]; rfl, HB.out⟩
              | false =>
                go_wp2_with fail
                go_ret
                exact ⟨by rw [HN.out]; rfl, HB.out⟩
          · have f3 : decide ((48 : Int) ≤ (s[k].toNat : Int)) = false := by simp; omega
            have HN := stop (.inl (ok_no a1 (by omega) (by omega)))
            clear next stop a1 a2 a3
            cases f6 : ((k : Int) == 0) with
            | true =>
              go_wp2_with fail
              go_ret
              exact ⟨by rw [HN.out]; rfl, HB.out⟩
            | false =>
              go_wp2_with fail
              go_ret
              exact ⟨by rw [HN.out]; rfl, HB.out⟩
    · have HN : Hid (v = !s.toList.isEmpty) := by
        unfold Hid
        rw [← HV.out, Lib.toList_data]
        by_cases h0 : s.size = 0
        · rw [plain_empty s h0]
          have : s.data.toList = [] := List.length_eq_zero_iff.1 (by simpa using h0)
          rw [this]; rfl
        · rw [plain_yes s (by omega) (fun j hj => (hall.out j hj (by omega)).1) ((hall.out 0 (by omega) (by omega)).2 rfl)]
          have : s.data.toList.isEmpty = false := by
            rw [List.isEmpty_eq_false_iff]
            intro e
            have h2 : s.data.toList.length = 0 := by rw [e]; rfl
            have h3 : s.data.toList.length = s.size := by simp
            omega
          rw [this]; rfl
      go_wp2_with fail
      go_ret
      exact ⟨by rw [HN.out]; rfl, HB.out⟩

theorem stringsClone (s : ByteArray) (w : World) (hs : s.size ≤ 1048576) :
    Calls Tryz.prog 78 #[.string s] w fun e w' => e = .returned (.string s) ∧ Below w.heap.size w w' := by
  go_enter Tryz.func78, Tryz.ntmps78
  go_wp2_with fail
  refine (Tryz.stringslite_Clone s _ (by omega)).mono ?_
  rintro e w1 ⟨rfl, b1⟩
  go_wp2_with fail
  go_ret
  exact ⟨rfl, b1⟩

set_option maxHeartbeats 1000000 in
theorem implPutName (s : ByteArray) (w : World) (hs : s.size ≤ 1048576) (r : ByteArray) (hr : nameT s = r) :
    Calls Tryz.prog 30 #[.string s] w fun e w' => e = .returned (.string r) ∧ Below w.heap.size w w' := by
  unfold nameT at hr
  have hp := fun w => implPlain s w hs _ rfl
  have hk := fun w => implReserved s w (keptB s.data.toList) (by rw [Lib.toList_data])
  generalize plainB s.data.toList = p at hr hp
  generalize keptB s.data.toList = q at hr hk
  cases p with
  | false =>
    have HR : Hid (quoteT s 34 = r) := by unfold Hid; rw [← hr]; rfl
    clear hr
    go_enter Tryz.func30, Tryz.ntmps30
    go_wp2_with fail
    refine (hp _).mono ?_
    rintro e w1 ⟨rfl, b1⟩
    go_wp2_with fail
    refine (implQuote s 34 _ hs).mono ?_
    rintro e w2 ⟨rfl, b2⟩
    go_wp2_with fail
    go_ret
    exact ⟨by rw [← HR.out]; rfl, b1.trans (b2.mono b1.size)⟩
  | true =>
    cases q with
    | true =>
      have HR : Hid (quoteT s 34 = r) := by unfold Hid; rw [← hr]; rfl
      clear hr
      go_enter Tryz.func30, Tryz.ntmps30
      go_wp2_with fail
      refine (hp _).mono ?_
      rintro e w1 ⟨rfl, b1⟩
      go_wp2_with fail
      refine (hk _).mono ?_
      rintro e w1' ⟨rfl, rfl⟩
      go_wp2_with fail
      refine (implQuote s 34 _ hs).mono ?_
      rintro e w2 ⟨rfl, b2⟩
      go_wp2_with fail
      go_ret
      exact ⟨by rw [← HR.out]; rfl, b1.trans (b2.mono b1.size)⟩
    | false =>
      have HR : Hid (s = r) := by unfold Hid; rw [← hr]; rfl
      clear hr
      go_enter Tryz.func30, Tryz.ntmps30
      go_wp2_with fail
      refine (hp _).mono ?_
      rintro e w1 ⟨rfl, b1⟩
      go_wp2_with fail
      refine (hk _).mono ?_
      rintro e w1' ⟨rfl, rfl⟩
      go_wp2_with fail
      refine (stringsClone s _ hs).mono ?_
      rintro e w2 ⟨rfl, b2⟩
      go_wp2_with fail
      go_ret
      exact ⟨by rw [← HR.out]; rfl, b1.trans (b2.mono b1.size)⟩

end Go.Proofs.YtpdcmmhhgnackaaGreatDoor

namespace Go.Proofs.YtpdcmmhhgnackaaGreatDoor
open Go.RowKit

theorem gPow : Tryz.prog.globalNamed "internal/strconv.uint64pow10" = some 3 := by kernel_rfl
theorem gPowType : (Tryz.prog.globals[3]?).map (·.type) = some 176 := by kernel_rfl
theorem cellsPow : Tryz.prog.cellsOf 176 = 20 := by kernel_rfl
theorem cellsU64 : Tryz.prog.cellsOf 166 = 1 := by kernel_rfl

theorem powTab_of {W : World} {rest : List (String × DataW Unit)} (h : laidMet Tryz.prog (("internal/strconv.uint64pow10", Rows.laid_internal_strconv_uint64pow10) :: rest) W) :
    Lib.TabIs Tryz.prog W "internal/strconv.uint64pow10" .u64 Lib.pow10Tab :=
  Lib.tabIs_of_head (rest := rest) gPow gPowType Tryz.underlying176 Tryz.underlying166 cellsU64 cellsPow h

theorem implDecText (n : Int) (w : World) (h0 : -9223372036854775808 ≤ n) (h1 : n ≤ 9223372036854775807) (ht : Lib.TabIs Tryz.prog w "internal/strconv.uint64pow10" .u64 Lib.pow10Tab) :
    Calls Tryz.prog 82 #[.int .i64 n] w fun e w' => e = .returned (.string (dec n)) ∧ Below w.heap.size w w' := by
  have HT := Lib.hid ht
  clear ht
  go_enter Tryz.func82, Tryz.ntmps82
  go_wp2_with (go_at_call 121; refine (Tryz.strconv_Itoa n h0 h1 w HT.out).mono ?_; rintro e w' ⟨rfl, k, os, rfl⟩)
  go_ret
  refine ⟨rfl, rfl, rfl, rfl, by simp [Go.Sort.grow], fun i hi => ?_⟩
  show (w.heap ++ os)[i]? = w.heap[i]?
  rw [Array.getElem?_append_left hi]

end Go.Proofs.YtpdcmmhhgnackaaGreatDoor
