/- impl.Nodes counts the nodes. -/
import Derived.Test.YtdggcgipchijjaaEachCount
import Derived.Deep.Upon
namespace Go.Proofs.Ytdggcgipchijjaa
open Go.RowKit

theorem grownBy_alloc (w : World) (o : Obj) (row : Option Nat) : w.grownBy (w.alloc o) row := by
  have hb : Below w.heap.size w (w.alloc o) := (Below.refl _ _).alloc (Nat.le_refl _) o
  exact ⟨hb.os, hb.tape, hb.output, hb.size, fun k hk _ => hb.block k hk⟩

theorem setCell_grown (w : World) (b o : Nat) (v : Value) : w.grownBy (w.setCell ⟨b, o, none⟩ v) (some b) := by
  refine ⟨rfl, rfl, rfl, by simp, fun k hk hne => ?_⟩
  exact World.heap_setCells_other w b o [v] hk (fun h => hne (by rw [h]))

/-- What the count turns. -/
theorem count_grown {w : World} {wb m : Nat} (hc : w.cell? ⟨wb, 0, none⟩ = some (.int .i64 m)) (hz : w.frozen? ⟨wb, 0, none⟩ = false) (o : Obj) {v : Value} (hv : v = .int .i64 (m + 1 : Nat)) {w' : World} (hw : w' = (w.setCell ⟨wb, 0, none⟩ v).alloc o) :
    w.grownBy w' (some wb) ∧ w'.cell? ⟨wb, 0, none⟩ = some (.int .i64 (m + 1 : Nat)) ∧ w'.frozen? ⟨wb, 0, none⟩ = false := by
  subst hv hw
  have hlt := World.block_lt_of_cell? w ⟨wb, 0, none⟩ hc
  have hg1 := setCell_grown w wb 0 (.int .i64 (m + 1 : Nat))
  have hg2 := grownBy_alloc (w.setCell ⟨wb, 0, none⟩ (.int .i64 (m + 1 : Nat))) o none
  have hlt2 : wb < (w.setCell ⟨wb, 0, none⟩ (.int .i64 (m + 1 : Nat))).heap.size := by simpa using hlt
  exact ⟨hg1.trans (hg2.but _), (hg2.cell_far ⟨wb, 0, none⟩ hlt2 (by simp)).trans (World.cell?_setCell_same _ _ _ hc), (hg2.frozen_far ⟨wb, 0, none⟩ hlt2 (by simp)).trans (by rw [World.frozen?_setCell]; exact hz)⟩

set_option maxHeartbeats 1000000 in
theorem countSees (wb : Nat) : Sees (fun _ => True) 39 wb (fun _ => true) 1073741825 [] := by
  intro e a c d m w _ hfit hk hc hz hm
  have hlt := World.block_lt_of_cell? w ⟨wb, 0, none⟩ hc
  have H := Lib.hid (count_grown hc hz)
  clear hk hfit
  go_enter Try.func39, Try.ntmps39
  go_wp2_with fail
  refine bodyPost_end (results_none rfl _ _ _) rfl ?_
  obtain ⟨h1, h2, h3⟩ := H.out _ (by go_num) rfl
  exact ⟨h1, h2, h3, by first | rfl | (rw [decide_eq_true (by omega)]; rfl)⟩

theorem allTrue : (∀ e : Ex, e.all (fun _ => true) = true) := by
  intro e
  induction hn : e.nodes using Nat.strongRecOn generalizing e with
  | ind n ih =>
    rw [Ex.all_eq, Bool.true_and]
    have hne := Ex.nodes_eq e
    have key : ∀ l : List Ex, nodesL l < n → allL (fun _ => true) l = true := by
      intro l
      induction l with
      | nil => intro _; rfl
      | cons x r ihl =>
        intro h
        rw [nodesL] at h
        rw [allL, ih x.nodes (by omega) x rfl, ihl (by omega)]
        rfl
    exact key e.kids (by omega)

set_option maxHeartbeats 1000000 in
theorem implNodes (e : Ex) (a : Option Addr) (c d : Nat) (w : World) (hfit : e.fit) (hk : KidsAt w d a c e.kids) (hn : e.nodes ≤ 1073741824) :
    Calls Try.prog 18 #[.agg #[.int .i64 e.kind, .string e.text, .int .i64 e.num, .slice a e.kids.length c]] w fun x w' => x = .returned (.int .i64 e.nodes) ∧ Below w.heap.size w w' := by
  have hmf : ∀ (fn : Fn) (first cap : Array Value) (w : World), (Instr.makeFunc fn first cap).run Try.prog w = .ok (.func fn first cap) w := fun _ _ _ _ => rfl
  have HK : Hid (∀ o1 o2 W, W = (w.alloc o1).alloc o2 → KidsQ (fun b => b ≠ w.heap.size + 1) W d a c e.kids) := by
    intro o1 o2 W hW
    have hb : Below w.heap.size w W := by subst hW; exact ((Below.refl _ _).alloc (Nat.le_refl _) _).alloc (by simp) _
    exact (hk.q.agree hb.size fun b h _ o => hb.cell (p := ⟨b, o, none⟩) h).imp fun b h _ => by omega
  clear hk
  go_enter Try.func18, Try.ntmps18
  go_wp2_with fail
  refine (eachCount (countSees (w.heap.size + 1)) e a c d 0 _ (fun _ _ => trivial) hfit (HK.out _ _ _ rfl) (by simp) (by simp [go_sem]) (by simp [go_sem]) (by omega)).mono ?_
  rintro x w2 ⟨hg, rfl, hc⟩
  have hc2 := hc (allTrue e) (by omega)
  have hx : SeeX (e.all (fun _ => true) && decide (0 + e.nodes ≤ 1073741825)) [] = .returned (.tuple #[]) := by rw [allTrue e, decide_eq_true (by omega)]; rfl
  rw [hx]
  rw [Nat.zero_add] at hc2
  have hbel : Below w.heap.size w w2 := by
    refine (((Below.refl w.heap.size w).alloc (Nat.le_refl _) _).alloc (by simp) _).trans ⟨hg.os, hg.tape, hg.output, hg.size, fun k hk => hg.block k ?_ ?_⟩
    · simp; omega
    · intro h; have := Option.some.inj h; omega
  clear hc hx hg
  go_wp2_with fail
  go_ret
  exact ⟨rfl, hbel⟩

end Go.Proofs.Ytdggcgipchijjaa
