/- impl.eachNode with (*impl.nodeWalk).check. -/
/- impl.eachNode with (*impl.nodeWalk).count. -/
/- impl.Nodes counts the nodes. -/
import Derived.Test.YtefjjcoaeanagaaDoorMExNodes
import Derived.Deep.Upon
namespace Go.Proofs.YtefjjcoaeanagaaDoor
open Go.RowKit

set_option maxHeartbeats 2000000 in
theorem eachCheck {wb : Nat} {chk : Ex → Bool} {lim : Nat} {pc : List PanicEntry} {J : World → Prop} (hsee : Sees J 62 wb chk lim pc) (e : Ex) (a : Option Addr) (c d m : Nat) (w : World) (hJ : ∀ w', w.grownBy w' (some wb) → J w') (hfit : e.fit) (hk : KidsQ (fun b => b ≠ wb) w d a c e.kids)
    (hwb : wb < w.heap.size) (hm : w.cell? ⟨wb, 0, none⟩ = some (.int .i64 m)) (hz : w.frozen? ⟨wb, 0, none⟩ = false) (hn : m + e.nodes ≤ 1073741824) :
    Calls Tryd.prog 37 #[.agg #[.int .i64 e.kind, .string e.text, .int .i64 e.num, .slice a e.kids.length c], .func (.func 62) #[.pointer (some ⟨wb, 0, none⟩)] #[]] w (EachP w wb chk lim pc e m) := by
  obtain ⟨i0, hi0, hz0, hz1, hz2⟩ := info_parts Tryd.infoKidsS
  have HST := Lib.hid (WInv.start hfit hk hwb hm hz)
  clear hk hfit hm hz
  go_enter Tryd.func37, Tryd.ntmps37
  go_wp2_with fail
  go_loopw [4] (fun v wr => ∃ ps mm, WInv w wb ps v mm wr ∧ mm + sumP ps = m + e.nodes ∧ e.all chk = allP chk ps ∧ (m < mm → mm ≤ lim)) (fun _ wr => m + e.nodes - cellN wr wb)
  case atStart => exact ⟨_, m, HST.out _ rfl, by simp [sumP, nodesL], by simp [allP, allL], fun h => absurd h (Nat.lt_irrefl _)⟩
  case round =>
    obtain ⟨ps, mm, hI, hsum, hall, hlim⟩ := hrel
    rcases List.eq_nil_or_concat ps with rfl | ⟨qs, ⟨pa, pcp, pk⟩, rfl⟩
    · obtain ⟨a0, c0, rfl⟩ := hI.form
      have HI := Lib.hid hI
      have HS := Lib.hid hsum
      have HA := Lib.hid hall
      clear hI hsum hall
      go_wp2_with fail
      refine bodyPost_end (results_none rfl _ _ _) rfl ?_
      have hmm : mm = m + e.nodes := by have := HS.out; simpa [sumP] using this
      subst hmm
      have hall : e.all chk = true := by rw [HA.out]; rfl
      have hnp := Ex.nodes_eq e
      have hle := hlim (by omega)
      exact ⟨HI.out.grown, by rw [hall, decide_eq_true hle]; rfl, fun _ _ => HI.out.cell⟩
    · obtain ⟨g, cap, rfl, hcap, hcapm, hcell, hI2, hpk, d2, hk2⟩ := WInv.pop (by simpa using hI)
      unfold Pd.v at hcell
      simp only at hcell hpk hk2
      unfold maxLen at hcapm
      have HI := Lib.hid hI2
      have HK2 := Lib.hid hk2
      rw [List.concat_eq_append, sumP_snoc] at hsum
      rw [List.concat_eq_append, allP_snoc] at hall
      have HS := Lib.hid hsum
      have HA := Lib.hid hall
      clear hI hI2 hk2 hsum hall
      go_wp2_with fail
      go_loopw [4, 27] (fun v i wr => ∃ (ps : List Pd) (k : Nat), i = .int .i64 k ∧ k ≤ pk.length ∧ WInv w wb ps v (mm + k) wr ∧ KidsQ (InQ w wb) wr d2 pa pcp pk ∧ mm + k + sumP ps + nodesL (pk.drop k) = m + e.nodes ∧ e.all chk = (allP chk ps && allL chk (pk.drop k)) ∧ (m < mm + k → mm + k ≤ lim)) (fun _ i _ => pk.length - (intOf i).toNat)
      case atStart => exact ⟨qs, 0, rfl, Nat.zero_le _, HI.out, HK2.out, by have := HS.out; simp only [List.drop_zero] at this ⊢; omega, HA.out, hlim⟩
      case round =>
        obtain ⟨ps, k, rfl, hk, hI3, hk3, hsum3, hall3, hlim3⟩ := hrel
        obtain ⟨a0, c0, rfl⟩ := hI3.form
        by_cases hlt : k < pk.length
        · obtain ⟨d3, rfl⟩ : ∃ q, d2 = q + 1 := ⟨d2 - 1, by cases d2 with | zero => exact hk3.elim | succ n => omega⟩
          obtain ⟨b, off, rfl, hq, hbl, hc0, hc1, hc2, hfit, a', c', hc3, hkid⟩ := hk3.spot hlt
          have hxl := hkid.at.len
          have hmb : mm + k ≤ 1073741824 := by omega
          have HI3 := Lib.hid hI3
          have HK3 := Lib.hid hk3
          have HX := Lib.hid hkid
          have HS3 := Lib.hid hsum3
          have HA3 := Lib.hid hall3
          have hsz3 := hI3.size
          clear hI3 hsum3 hall3 hk3 hkid
          go_wp2_with fail
          refine (hsee pk[k] a' c' d3 (mm + k) _ (hJ _ (HI3.out.alloc _).grown) hfit ((HX.out.at.below ((Below.refl _ _).alloc (Nat.le_refl _) _))) (HI3.out.alloc _).cell (HI3.out.alloc _).frozen hmb).mono ?_
          rintro x w2 ⟨hg2, hc, hz, rfl⟩
          have hI4 := (HI3.out.alloc _).next hg2 (.inr rfl) hc hz
          have hbox : w2.cell? ⟨wr.heap.size, 3, none⟩ = some (.slice a' pk[k].kids.length c') := hg2.cell (a := ⟨wr.heap.size, 3, none⟩) (by simp [go_sem]) (by intro h; have h' := Option.some.inj h; simp only at h'; omega)
          have hkeep : KidsQ (InQ w wb) w2 (d3 + 1) (some ⟨b, off, none⟩) pcp pk ∧ KidsQ (InQ w wb) w2 d3 a' c' pk[k].kids := by
            have hb1 := (Below.refl wr.heap.size wr).alloc (Nat.le_refl _) (.cells #[.int .i64 pk[k].kind, .string pk[k].text, .int .i64 pk[k].num, .slice a' pk[k].kids.length c'] 26)
            have hg1 : wr.grownBy _ none := ⟨hb1.os, hb1.tape, hb1.output, hb1.size, fun k hk _ => hb1.block k hk⟩
            have hI5 := HI3.out.alloc (.cells #[.int .i64 pk[k].kind, .string pk[k].text, .int .i64 pk[k].num, .slice a' pk[k].kids.length c'] 26)
            exact ⟨kids_grown hI5.size hg2 (by rintro b h; cases h; exact .inl rfl) hI5.lt (kids_grown HI3.out.size hg1 (by simp) HI3.out.lt HK3.out), kids_grown hI5.size hg2 (by rintro b h; cases h; exact .inl rfl) hI5.lt (kids_grown HI3.out.size hg1 (by simp) HI3.out.lt HX.out)⟩
          have HI4 := Lib.hid hI4
          have HKP := Lib.hid hkeep
          have HDN := Lib.hid (nodesL_drop pk k hlt)
          have HDA := Lib.hid (allL_drop chk pk k hlt)
          have HNE := Lib.hid (Ex.nodes_eq pk[k])
          have HAE := Lib.hid (Ex.all_eq chk pk[k])
          have hsz4 := hI4.size
          clear hI4 hkeep hg2 hc0 hc1 hc2 hc3
          cases hgd : (chk pk[k] && decide (mm + k + 1 ≤ lim)) with
          | false =>
            have HG := Lib.hid hgd
            clear hgd
            simp only [SeeX, Bool.false_eq_true, if_false]
            have HF : Hid ((e.all chk && decide (m + e.nodes ≤ lim)) = false) := by
              have h1 := HG.out; have h2 := HA3.out; have h3 := HDA.out; have h4 := HAE.out; have h5 := HS3.out; have h6 := HDN.out; have h7 := HNE.out
              unfold Hid
              rw [h2, h3, h4]
              rw [Bool.and_eq_false_iff] at h1
              rcases h1 with h1 | h1
              · simp [h1]
              · have : decide (m + e.nodes ≤ lim) = false := by simp at h1 ⊢; omega
                rw [this]; simp
            go_wp2_with fail
            refine ⟨rfl, HI4.out.grown, by rw [HF.out]; rfl, fun h1 h2 => ?_⟩
            have := HF.out
            rw [h1, decide_eq_true h2] at this
            cases this
          | true =>
            have HG := Lib.hid hgd
            clear hgd
            have hle : mm + k + 1 ≤ lim := by have := HG.out; simp at this; exact this.2
            have hck : chk pk[k] = true := by have := HG.out; simp at this; exact this.1
            simp only [SeeX, if_true]
            have hpl : ps.length + 1 ≤ 1073741824 := by
              have h5 := HS3.out; have h6 := HDN.out; have h7 := HNE.out
              have h8 := sumP_len ps (fun p hp => (HI4.out.kids p hp).1)
              omega
            have HE : Hid (mm + (k + 1) + (sumP ps + nodesL pk[k].kids) + nodesL (pk.drop (k + 1)) = m + e.nodes ∧ e.all chk = (allP chk ps && allL chk pk[k].kids && allL chk (pk.drop (k + 1)))) := by
              have h2 := HA3.out; have h3 := HDA.out; have h4 := HAE.out; have h5 := HS3.out; have h6 := HDN.out; have h7 := HNE.out
              refine ⟨by omega, ?_⟩
              rw [h2, h3, h4, hck]
              simp [Bool.and_assoc]
            by_cases hpos : 0 < pk[k].kids.length
            · go_wp2_with (at_builtin; refine wpPush rfl (.tmp 38) (.tmp 41) rfl a0 c0 ⟨a', c', pk[k].kids⟩ d3 _ HI4.out hpos HKP.out.2 hpl rfl rfl rfl ?_; intro a6 c6 w6 HI6)
              go_roundw
              case rel =>
                refine ⟨ps ++ [⟨a', c', pk[k].kids⟩], k + 1, by go_num, by omega, ?_, ?_, ?_, ?_, by omega⟩
                · exact HI6.out.1
                · exact kids_grown HI4.out.size HI6.out.2 (fun b hb => .inr (HI4.out.row.lt b hb).1) HI4.out.lt HKP.out.1
                · rw [sumP_snoc]; exact HE.out.1
                · rw [allP_snoc]; exact HE.out.2
              case measure => simp [intOf]; omega
            · have h0 : pk[k].kids = [] := List.eq_nil_of_length_eq_zero (by omega)
              have hl0 : pk[k].kids.length = 0 := by rw [h0]; rfl
              go_wp2_with fail
              go_roundw
              case rel =>
                refine ⟨ps, k + 1, by go_num, by omega, HI4.out, HKP.out.1, ?_, ?_, by omega⟩
                · have := HE.out.1; rw [h0] at this; simpa [nodesL] using this
                · have := HE.out.2; rw [h0] at this; simpa [allL] using this
              case measure => simp [intOf]; omega
        · obtain rfl : k = pk.length := by omega
          have HI3 := Lib.hid hI3
          have HS3 := Lib.hid hsum3
          have HA3 := Lib.hid hall3
          clear hI3 hsum3 hall3 hk3
          go_wp2_with fail
          go_roundw
          case rel => exact ⟨ps, mm + pk.length, HI3.out, by have := HS3.out; simpa [nodesL] using this, by have := HA3.out; simpa [allL] using this, hlim3⟩
          case measure =>
            have h1 := HI3.out.cellN
            have h2 := HI.out.cellN
            have h3 := HS3.out
            rw [h1, h2]
            omega

end Go.Proofs.YtefjjcoaeanagaaDoor

namespace Go.Proofs.YtefjjcoaeanagaaDoor
open Go.RowKit

set_option maxHeartbeats 2000000 in
theorem eachCount {wb : Nat} {chk : Ex → Bool} {lim : Nat} {pc : List PanicEntry} {J : World → Prop} (hsee : Sees J 79 wb chk lim pc) (e : Ex) (a : Option Addr) (c d m : Nat) (w : World) (hJ : ∀ w', w.grownBy w' (some wb) → J w') (hfit : e.fit) (hk : KidsQ (fun b => b ≠ wb) w d a c e.kids)
    (hwb : wb < w.heap.size) (hm : w.cell? ⟨wb, 0, none⟩ = some (.int .i64 m)) (hz : w.frozen? ⟨wb, 0, none⟩ = false) (hn : m + e.nodes ≤ 1073741824) :
    Calls Tryd.prog 37 #[.agg #[.int .i64 e.kind, .string e.text, .int .i64 e.num, .slice a e.kids.length c], .func (.func 79) #[.pointer (some ⟨wb, 0, none⟩)] #[]] w (EachP w wb chk lim pc e m) := by
  obtain ⟨i0, hi0, hz0, hz1, hz2⟩ := info_parts Tryd.infoKidsS
  have HST := Lib.hid (WInv.start hfit hk hwb hm hz)
  clear hk hfit hm hz
  go_enter Tryd.func37, Tryd.ntmps37
  go_wp2_with fail
  go_loopw [4] (fun v wr => ∃ ps mm, WInv w wb ps v mm wr ∧ mm + sumP ps = m + e.nodes ∧ e.all chk = allP chk ps ∧ (m < mm → mm ≤ lim)) (fun _ wr => m + e.nodes - cellN wr wb)
  case atStart => exact ⟨_, m, HST.out _ rfl, by simp [sumP, nodesL], by simp [allP, allL], fun h => absurd h (Nat.lt_irrefl _)⟩
  case round =>
    obtain ⟨ps, mm, hI, hsum, hall, hlim⟩ := hrel
    rcases List.eq_nil_or_concat ps with rfl | ⟨qs, ⟨pa, pcp, pk⟩, rfl⟩
    · obtain ⟨a0, c0, rfl⟩ := hI.form
      have HI := Lib.hid hI
      have HS := Lib.hid hsum
      have HA := Lib.hid hall
      clear hI hsum hall
      go_wp2_with fail
      refine bodyPost_end (results_none rfl _ _ _) rfl ?_
      have hmm : mm = m + e.nodes := by have := HS.out; simpa [sumP] using this
      subst hmm
      have hall : e.all chk = true := by rw [HA.out]; rfl
      have hnp := Ex.nodes_eq e
      have hle := hlim (by omega)
      exact ⟨HI.out.grown, by rw [hall, decide_eq_true hle]; rfl, fun _ _ => HI.out.cell⟩
    · obtain ⟨g, cap, rfl, hcap, hcapm, hcell, hI2, hpk, d2, hk2⟩ := WInv.pop (by simpa using hI)
      unfold Pd.v at hcell
      simp only at hcell hpk hk2
      unfold maxLen at hcapm
      have HI := Lib.hid hI2
      have HK2 := Lib.hid hk2
      rw [List.concat_eq_append, sumP_snoc] at hsum
      rw [List.concat_eq_append, allP_snoc] at hall
      have HS := Lib.hid hsum
      have HA := Lib.hid hall
      clear hI hI2 hk2 hsum hall
      go_wp2_with fail
      go_loopw [4, 27] (fun v i wr => ∃ (ps : List Pd) (k : Nat), i = .int .i64 k ∧ k ≤ pk.length ∧ WInv w wb ps v (mm + k) wr ∧ KidsQ (InQ w wb) wr d2 pa pcp pk ∧ mm + k + sumP ps + nodesL (pk.drop k) = m + e.nodes ∧ e.all chk = (allP chk ps && allL chk (pk.drop k)) ∧ (m < mm + k → mm + k ≤ lim)) (fun _ i _ => pk.length - (intOf i).toNat)
      case atStart => exact ⟨qs, 0, rfl, Nat.zero_le _, HI.out, HK2.out, by have := HS.out; simp only [List.drop_zero] at this ⊢; omega, HA.out, hlim⟩
      case round =>
        obtain ⟨ps, k, rfl, hk, hI3, hk3, hsum3, hall3, hlim3⟩ := hrel
        obtain ⟨a0, c0, rfl⟩ := hI3.form
        by_cases hlt : k < pk.length
        · obtain ⟨d3, rfl⟩ : ∃ q, d2 = q + 1 := ⟨d2 - 1, by cases d2 with | zero => exact hk3.elim | succ n => omega⟩
          obtain ⟨b, off, rfl, hq, hbl, hc0, hc1, hc2, hfit, a', c', hc3, hkid⟩ := hk3.spot hlt
          have hxl := hkid.at.len
          have hmb : mm + k ≤ 1073741824 := by omega
          have HI3 := Lib.hid hI3
          have HK3 := Lib.hid hk3
          have HX := Lib.hid hkid
          have HS3 := Lib.hid hsum3
          have HA3 := Lib.hid hall3
          have hsz3 := hI3.size
          clear hI3 hsum3 hall3 hk3 hkid
          go_wp2_with fail
          refine (hsee pk[k] a' c' d3 (mm + k) _ (hJ _ (HI3.out.alloc _).grown) hfit ((HX.out.at.below ((Below.refl _ _).alloc (Nat.le_refl _) _))) (HI3.out.alloc _).cell (HI3.out.alloc _).frozen hmb).mono ?_
          rintro x w2 ⟨hg2, hc, hz, rfl⟩
          have hI4 := (HI3.out.alloc _).next hg2 (.inr rfl) hc hz
          have hbox : w2.cell? ⟨wr.heap.size, 3, none⟩ = some (.slice a' pk[k].kids.length c') := hg2.cell (a := ⟨wr.heap.size, 3, none⟩) (by simp [go_sem]) (by intro h; have h' := Option.some.inj h; simp only at h'; omega)
          have hkeep : KidsQ (InQ w wb) w2 (d3 + 1) (some ⟨b, off, none⟩) pcp pk ∧ KidsQ (InQ w wb) w2 d3 a' c' pk[k].kids := by
            have hb1 := (Below.refl wr.heap.size wr).alloc (Nat.le_refl _) (.cells #[.int .i64 pk[k].kind, .string pk[k].text, .int .i64 pk[k].num, .slice a' pk[k].kids.length c'] 26)
            have hg1 : wr.grownBy _ none := ⟨hb1.os, hb1.tape, hb1.output, hb1.size, fun k hk _ => hb1.block k hk⟩
            have hI5 := HI3.out.alloc (.cells #[.int .i64 pk[k].kind, .string pk[k].text, .int .i64 pk[k].num, .slice a' pk[k].kids.length c'] 26)
            exact ⟨kids_grown hI5.size hg2 (by rintro b h; cases h; exact .inl rfl) hI5.lt (kids_grown HI3.out.size hg1 (by simp) HI3.out.lt HK3.out), kids_grown hI5.size hg2 (by rintro b h; cases h; exact .inl rfl) hI5.lt (kids_grown HI3.out.size hg1 (by simp) HI3.out.lt HX.out)⟩
          have HI4 := Lib.hid hI4
          have HKP := Lib.hid hkeep
          have HDN := Lib.hid (nodesL_drop pk k hlt)
          have HDA := Lib.hid (allL_drop chk pk k hlt)
          have HNE := Lib.hid (Ex.nodes_eq pk[k])
          have HAE := Lib.hid (Ex.all_eq chk pk[k])
          have hsz4 := hI4.size
          clear hI4 hkeep hg2 hc0 hc1 hc2 hc3
          cases hgd : (chk pk[k] && decide (mm + k + 1 ≤ lim)) with
          | false =>
            have HG := Lib.hid hgd
            clear hgd
            simp only [SeeX, Bool.false_eq_true, if_false]
            have HF : Hid ((e.all chk && decide (m + e.nodes ≤ lim)) = false) := by
              have h1 := HG.out; have h2 := HA3.out; have h3 := HDA.out; have h4 := HAE.out; have h5 := HS3.out; have h6 := HDN.out; have h7 := HNE.out
              unfold Hid
              rw [h2, h3, h4]
              rw [Bool.and_eq_false_iff] at h1
              rcases h1 with h1 | h1
              · simp [h1]
              · have : decide (m + e.nodes ≤ lim) = false := by simp at h1 ⊢; omega
                rw [this]; simp
            go_wp2_with fail
            refine ⟨rfl, HI4.out.grown, by rw [HF.out]; rfl, fun h1 h2 => ?_⟩
            have := HF.out
            rw [h1, decide_eq_true h2] at this
            cases this
          | true =>
            have HG := Lib.hid hgd
            clear hgd
            have hle : mm + k + 1 ≤ lim := by have := HG.out; simp at this; exact this.2
            have hck : chk pk[k] = true := by have := HG.out; simp at this; exact this.1
            simp only [SeeX, if_true]
            have hpl : ps.length + 1 ≤ 1073741824 := by
              have h5 := HS3.out; have h6 := HDN.out; have h7 := HNE.out
              have h8 := sumP_len ps (fun p hp => (HI4.out.kids p hp).1)
              omega
            have HE : Hid (mm + (k + 1) + (sumP ps + nodesL pk[k].kids) + nodesL (pk.drop (k + 1)) = m + e.nodes ∧ e.all chk = (allP chk ps && allL chk pk[k].kids && allL chk (pk.drop (k + 1)))) := by
              have h2 := HA3.out; have h3 := HDA.out; have h4 := HAE.out; have h5 := HS3.out; have h6 := HDN.out; have h7 := HNE.out
              refine ⟨by omega, ?_⟩
              rw [h2, h3, h4, hck]
              simp [Bool.and_assoc]
            by_cases hpos : 0 < pk[k].kids.length
            · go_wp2_with (at_builtin; refine wpPush rfl (.tmp 38) (.tmp 41) rfl a0 c0 ⟨a', c', pk[k].kids⟩ d3 _ HI4.out hpos HKP.out.2 hpl rfl rfl rfl ?_; intro a6 c6 w6 HI6)
              go_roundw
              case rel =>
                refine ⟨ps ++ [⟨a', c', pk[k].kids⟩], k + 1, by go_num, by omega, ?_, ?_, ?_, ?_, by omega⟩
                · exact HI6.out.1
                · exact kids_grown HI4.out.size HI6.out.2 (fun b hb => .inr (HI4.out.row.lt b hb).1) HI4.out.lt HKP.out.1
                · rw [sumP_snoc]; exact HE.out.1
                · rw [allP_snoc]; exact HE.out.2
              case measure => simp [intOf]; omega
            · have h0 : pk[k].kids = [] := List.eq_nil_of_length_eq_zero (by omega)
              have hl0 : pk[k].kids.length = 0 := by rw [h0]; rfl
              go_wp2_with fail
              go_roundw
              case rel =>
                refine ⟨ps, k + 1, by go_num, by omega, HI4.out, HKP.out.1, ?_, ?_, by omega⟩
                · have := HE.out.1; rw [h0] at this; simpa [nodesL] using this
                · have := HE.out.2; rw [h0] at this; simpa [allL] using this
              case measure => simp [intOf]; omega
        · obtain rfl : k = pk.length := by omega
          have HI3 := Lib.hid hI3
          have HS3 := Lib.hid hsum3
          have HA3 := Lib.hid hall3
          clear hI3 hsum3 hall3 hk3
          go_wp2_with fail
          go_roundw
          case rel => exact ⟨ps, mm + pk.length, HI3.out, by have := HS3.out; simpa [nodesL] using this, by have := HA3.out; simpa [allL] using this, hlim3⟩
          case measure =>
            have h1 := HI3.out.cellN
            have h2 := HI.out.cellN
            have h3 := HS3.out
            rw [h1, h2]
            omega

end Go.Proofs.YtefjjcoaeanagaaDoor

namespace Go.Proofs.YtefjjcoaeanagaaDoor
open Go.RowKit

theorem grownBy_alloc (w : World) (o : Obj) (row : Option Nat) : w.grownBy (w.alloc o) row := by
  have hb : Below w.heap.size w (w.alloc o) := (Below.refl _ _).alloc (Nat.le_refl _) o
  exact ⟨hb.os, hb.tape, hb.output, hb.size, fun k hk _ => hb.block k hk⟩

theorem setCell_grown (w : World) (b o : Nat) (v : Value) : w.grownBy (w.setCell ⟨b, o, none⟩ v) (some b) := by
  refine ⟨rfl, rfl, rfl, by simp, fun k hk hne => ?_⟩
  exact World.heap_setCells_other w b o [v] hk (fun h => hne (by rw [h]))

/-- What the count turns. -/
theorem count_grown {w : World} {wb m : Nat} (hc : w.cell? ⟨wb, 0, none⟩ = some (.int .i64 m)) (hz : w.frozen? ⟨wb, 0, none⟩ = false) (o : Obj) {v : Value} (hv : v = .int .i64 (m + 1 : Nat)) {w' : World} (hw : w' = (w.setCell ⟨wb, 0, none⟩ v).alloc o) :
    w.grownBy w' (some wb) ∧ w'.cell? ⟨wb, 0, none⟩ = some (.int .i64 (m + 1 : Nat)) ∧ w'.frozen? ⟨wb, 0, none⟩ = false := by
  subst hv hw
  have hlt := World.block_lt_of_cell? w ⟨wb, 0, none⟩ hc
  have hg1 := setCell_grown w wb 0 (.int .i64 (m + 1 : Nat))
  have hg2 := grownBy_alloc (w.setCell ⟨wb, 0, none⟩ (.int .i64 (m + 1 : Nat))) o none
  have hlt2 : wb < (w.setCell ⟨wb, 0, none⟩ (.int .i64 (m + 1 : Nat))).heap.size := by simpa using hlt
  exact ⟨hg1.trans (hg2.but _), (hg2.cell_far ⟨wb, 0, none⟩ hlt2 (by simp)).trans (World.cell?_setCell_same _ _ _ hc), (hg2.frozen_far ⟨wb, 0, none⟩ hlt2 (by simp)).trans (by rw [World.frozen?_setCell]; exact hz)⟩

set_option maxHeartbeats 1000000 in
theorem countSees (wb : Nat) : Sees (fun _ => True) 79 wb (fun _ => true) 1073741825 [] := by
  intro e a c d m w _ hfit hk hc hz hm
  have hlt := World.block_lt_of_cell? w ⟨wb, 0, none⟩ hc
  have H := Lib.hid (count_grown hc hz)
  clear hk hfit
  go_enter Tryd.func79, Tryd.ntmps79
  go_wp2_with fail
  refine bodyPost_end (results_none rfl _ _ _) rfl ?_
  obtain ⟨h1, h2, h3⟩ := H.out _ (by go_num) rfl
  exact ⟨h1, h2, h3, by first | rfl | (rw [decide_eq_true (by omega)]; rfl)⟩

theorem allTrue : (∀ e : Ex, e.all (fun _ => true) = true) := by
  intro e
  induction hn : e.nodes using Nat.strongRecOn generalizing e with
  | ind n ih =>
    rw [Ex.all_eq, Bool.true_and]
    have hne := Ex.nodes_eq e
    have key : ∀ l : List Ex, nodesL l < n → allL (fun _ => true) l = true := by
      intro l
      induction l with
      | nil => intro _; rfl
      | cons x r ihl =>
        intro h
        rw [nodesL] at h
        rw [allL, ih x.nodes (by omega) x rfl, ihl (by omega)]
        rfl
    exact key e.kids (by omega)

end Go.Proofs.YtefjjcoaeanagaaDoor
