/- face.All, walked. -/
import Derived.Test.YtieglcjfphmglaaDoorFWalk11
import Derived.Test.YtieglcjfphmglaaDoorTRound10
namespace Go.Proofs.YtieglcjfphmglaaDoor
open Go.RowKit
set_option linter.unusedVariables false

section
variable {w : World} {lo tb V E : Nat} {R : Nat → List Nat}

set_option maxRecDepth 100000 in
set_option maxHeartbeats 1000000 in
theorem all_nil (w : World) : Calls Tryd.prog 13 #[.pointer none] w fun e w' => ∃ u, e = .returned u ∧ u = .slice none 0 0 ∧ Below w.heap.size w w' := by
  obtain ⟨i0, hif, hz0, hz1, hz2⟩ := info_parts infoBool
  have hs := hid (sizes_nil w)
  go_enter Tryd.func13, Tryd.ntmps13
  go_wp2_with fail
  refine hs.out.mono ?_
  rintro e w1 ⟨rfl, rfl⟩
  go_wp2_with (at_make; refine wpList_make_full _ rfl (.tmp 18) (.tmp 18) 64 rfl w.heap.size 4 i0 (.bool false) 1 Tryd.underlying64 hif hz0 hz1 .i64 .i64 _ _ 0 rfl rfl rfl rfl (by rw [hz2]; omega) (by unfold maxLen; omega) (Nat.le_refl _) ?_; intro w2 hown hgrow)
  have hb2 : Hid (Below w.heap.size w w2) := (Below.refl w.heap.size w).grown hgrow (Nat.le_refl _) (by simp)
  clear hown hgrow
  go_wp2_with fail
  go_loopw [5, 22] (fun o u wr => o = .slice none 0 0 ∧ u = .int .i64 0 ∧ Hid (Below w.heap.size w wr)) (fun _ _ _ => 0)
  case atStart => exact ⟨rfl, by go_num, hb2⟩
  case round =>
    obtain ⟨rfl, rfl, hb⟩ := hrel
    go_wp2_with fail
    go_ret
    exact ⟨_, rfl, rfl, hb.out⟩

set_option maxRecDepth 100000 in
set_option maxHeartbeats 4000000 in
theorem all_ok (h : TA w lo tb V E R) (hw : Tw V E R) (hE8 : E ≤ 1000) :
    Calls Tryd.prog 13 #[.pointer (some ⟨tb, 0, none⟩)] w fun e w' => ∃ u, e = .returned u ∧ Rg w.heap.size w' u (fcs V R (2 * E)) ∧ Below w.heap.size w w' := by
  obtain ⟨i0, hif, hz0, hz1, hz2⟩ := info_parts infoBool
  obtain ⟨i1, hjf, hy0, hy1, hy2⟩ := info_parts infoInts
  have ht := h.tn
  have pm := fx_pm ht hw
  have hs := hid (sizes_ok h)
  have hwy : Hid (∀ x y, In V R x → Below w.heap.size w y → _) := hid (fun x y hx hy => walk_ok (h.more hy) hw x hx)
  have hwn : Hid (∀ x : Nat, ¬ In V R x → x < 2 * E → ∀ y, Below w.heap.size w y → Calls Tryd.prog 10 #[.pointer (some ⟨tb, 0, none⟩), .int .i64 (x : Int)] y fun e w' => e = .returned (.tuple #[.slice none 0 0, .iface 74 (.int .i64 13)]) ∧ Below y.heap.size y w') := hid (fun x hx hl y hy => by
    obtain ⟨n, r, hf, hc⟩ := fnext_any h hw (x : Int) (by omega) (by omega)
    rcases hf with ⟨_, _, q⟩ | ⟨rfl, _⟩ | ⟨_, j, e, q, _⟩
    · omega
    · exact walk_bad _ n 13 y (hc y hy)
    · obtain rfl : x = j := by omega
      exact absurd q hx)
  have hlst : Hid (∀ x, x < 2 * E → In V R x → (x ∈ (fcs V R x).flatten ↔ ¬ Pq.lst (fx V R) x)) := hid (fun x hx hi => by
    rw [fcs_mem ht hw (by omega)]
    unfold Pq.lst
    constructor
    · rintro ⟨_, k, hk⟩ q; have := q k; omega
    · intro q
      obtain ⟨k, hk⟩ := Classical.not_forall.1 q
      exact ⟨hi, k, by omega⟩)
  have hmi : Hid (∀ x y, x ≤ 2 * E → y ∈ (fcs V R x).flatten → In V R y) := hid (fun x y hx hy => ((fcs_mem ht hw hx).1 hy).1)
  have hpm := hid pm
  have hlow : Hid (∀ x, In V R x → x < 2 * E) := hid (fun x hx => hx.low ht)
  clear h pm hw ht
  obtain ⟨n, hn⟩ : ∃ n, 2 * E = n := ⟨_, rfl⟩
  have hn' : 2 * (E : Int) = (n : Int) := by omega
  have hnn : n ≤ 2000 := by omega
  rw [hn] at hwn hlst hmi hlow hpm ⊢
  replace hn := hid hn
  have hwr : Hid (wrap64 (2 * (E : Int)) = (n : Int)) := by rw [IntWalk.wrap64_in _ ⟨by omega, by omega⟩]; exact hid hn'
  replace hn' := hid hn'
  have hEn := hid hE8
  clear hE8
  go_enter Tryd.func13, Tryd.ntmps13
  go_wp2_with fail
  refine hs.out.mono ?_
  rintro e w1 ⟨rfl, m1, rfl⟩
  have b1 := hid (belowN (Below.refl w.heap.size w) m1)
  obtain ⟨w1, hw1⟩ : ∃ w1, w.drewN m1 = w1 := ⟨_, rfl⟩
  rw [hw1] at b1 ⊢
  have hsz := b1.out.size
  clear hs hw1
  go_upto_region 3 with fail
  go_wp2_with (at_make; rw [hwr.out]; refine wpList_make_full _ rfl (.tmp 18) (.tmp 18) 64 rfl w.heap.size 4 i0 (.bool false) 1 Tryd.underlying64 hif hz0 hz1 .i64 .i64 _ _ n rfl rfl rfl rfl (by rw [hz2]; omega) (by unfold maxLen; omega) hsz ?_; intro w2 hown hgrow)
  have hst0 : Hid (Mk w.heap.size w w2 (.slice (some ⟨w1.heap.size, 0, none⟩) n n) n (marks (fcs V R 0).flatten) ∧ Rg w.heap.size w2 (.slice none 0 0) (fcs V R 0)) := by
    rw [bl_made] at hown
    have e0 : fcs V R 0 = [] := by simp [fcs]
    refine ⟨⟨?_, b1.out.grown hgrow hsz (by simp), Nat.le_refl _⟩, ?_⟩
    · rw [show bl n (marks (fcs V R 0).flatten) = bl n (fun _ => false) from bl_congr (fun i _ => by simp [marks, e0])]
      exact hown
    · rw [e0]; exact Rg.nil _ _
  clear hown hgrow
  go_wp2_with fail
  go_loopw [5, 7, 8, 9, 11, 22] (fun o _ _ _ _ u wr => ∃ x : Nat, x ≤ n ∧ u = .int .i64 (x : Int) ∧ Hid (Mk w.heap.size w wr (.slice (some ⟨w1.heap.size, 0, none⟩) n n) n (marks (fcs V R x).flatten) ∧ Rg w.heap.size wr o (fcs V R x)))
    (fun _ _ _ _ _ u _ => n - (intOf u).toNat)
  case atStart => exact ⟨0, by omega, by go_num, hst0⟩
  case round =>
    obtain ⟨x, hx, rfl, hst⟩ := hrel
    clear hst0
    rcases Nat.lt_or_ge x n with hlt | hge
    · have hcell : wr.cell? ⟨w1.heap.size, x, none⟩ = some (.bool (marks (fcs V R x).flatten x)) := by rw [hst.out.1.row.cellAt x (by omega), bl_get hlt]
      have j1 : (0 : Int) ≤ (x : Int) := by omega
      have j2 : (x : Int) < (n : Int) := by omega
      by_cases hm : x ∈ (fcs V R x).flatten
      · have hi := hmi.out x x hx hm
        have hno : ¬ (In V R x ∧ Pq.lst (fx V R) x) := fun hl => (hlst.out x hlt hi).1 hm hl.2
        have hnew : Hid (Mk w.heap.size w wr (.slice (some ⟨w1.heap.size, 0, none⟩) n n) n (marks (fcs V R (x + 1)).flatten) ∧ Rg w.heap.size wr u5 (fcs V R (x + 1))) := by rw [fcs_no hno]; exact hst
        rw [show marks (fcs V R x).flatten x = true from by simpa [marks] using hm] at hcell
        clear hst hm hno hi
        go_wp2_with fail
        go_roundw
        case rel => exact ⟨x + 1, by omega, by go_num, hnew⟩
        case measure => simp [intOf]; omega
      · rw [show marks (fcs V R x).flatten x = false from by simpa [marks] using hm] at hcell
        by_cases hi : In V R x
        · have hyes : Hid (In V R x ∧ Pq.lst (fx V R) x) := hid ⟨hi, Classical.not_not.1 (fun q => hm ((hlst.out x hlt hi).2 q))⟩
          have hcx := hid (hwy.out x wr hi hst.out.1.bel)
          clear hm hi
          go_wp2_with fail
          refine hcx.out.mono ?_
          rintro e w3 ⟨c, rfl, hr, b3⟩
          have hst3 : Hid (Mk w.heap.size w w3 (.slice (some ⟨w1.heap.size, 0, none⟩) n n) n (marks ((fcs V R x).flatten ++ (Pq.orb (fx V R) x).take 0)) ∧ Rg w.heap.size w3 u5 (fcs V R x) ∧ Rw w.heap.size w3 c (Pq.orb (fx V R) x)) := by
            refine ⟨?_, hst.out.2.more b3, hr.low hst.out.1.bel.size⟩
            rw [List.take_zero, List.append_nil]
            exact hst.out.1.more b3
          clear hcx hst hr b3 hcell
          obtain ⟨d, hd⟩ : ∃ d, (Pq.orb (fx V R) x).length = d := ⟨_, rfl⟩
          have hdn : d ≤ 2000 := by
            have := (hpm.out.per_is hlt).2
            have h2 : (Pq.orb (fx V R) x).length = Pq.per (fx V R) x := by unfold Pq.orb; simp
            omega
          obtain ⟨ac, cc, rfl⟩ : ∃ ac cc, c = .slice ac d cc := by
            obtain ⟨ac, cc, h1, _⟩ := own_any hst3.out.2.2
            exact ⟨ac, cc, by rw [h1, hd]⟩
          replace hd := hid hd
          go_wp2_with fail
          go_loopw [11, 39] (fun _ u wy => ∃ k : Nat, k ≤ d ∧ u = .int .i64 (k : Int) ∧ Hid (Mk w.heap.size w wy (.slice (some ⟨w1.heap.size, 0, none⟩) n n) n (marks ((fcs V R x).flatten ++ (Pq.orb (fx V R) x).take k)) ∧ Rg w.heap.size wy u5 (fcs V R x) ∧ Rw w.heap.size wy (.slice ac d cc) (Pq.orb (fx V R) x)))
            (fun _ u _ => d - (intOf u).toNat)
          case atStart => exact ⟨0, by omega, by go_num, hst3⟩
          case round =>
            obtain ⟨k, hk, rfl, hst⟩ := hrel
            clear hst3
            rcases Nat.lt_or_ge k d with hkd | hkd
            · obtain ⟨z, hz⟩ : ∃ z, (Pq.orb (fx V R) x)[k]? = some z := ⟨_, List.getElem?_eq_getElem (by rw [hd.out]; exact hkd)⟩
              have hzn := hpm.out.orb_lt hlt (List.mem_of_getElem? hz)
              obtain ⟨g3, q3, c3, e3, _, _, _, hI⟩ := hst.out.2.2.nl
              obtain ⟨rfl, rfl, rfl⟩ : ac = g3 ∧ d = q3 ∧ cc = c3 := by simpa using e3
              obtain ⟨b4, o4, rfl, c4⟩ := hI k _ hz
              obtain ⟨hM, hG, hR⟩ := hst.out
              obtain ⟨s1, s2⟩ := hM.row.stored z (.bool true)
              rw [bl_set, marks_on, List.append_assoc, ← ntake hz] at s1
              have hfz := hM.row.frozenAt z
              have hold : wr.cell? ⟨w1.heap.size, z, none⟩ = some (.bool (marks ((fcs V R x).flatten ++ (Pq.orb (fx V R) x).take k) z)) := by rw [hM.row.cellAt z (by omega), bl_get hzn]
              have hnew := hid (And.intro (Mk.mk s1 (below_row hM.bel hM.low hM.row (Nat.le_refl _) s2) hM.low) (And.intro (hG.keptB hM.row s2) (hR.keptB hM.row s2)))
              generalize marks ((fcs V R x).flatten ++ (Pq.orb (fx V R) x).take k) z = old at hold
              clear s1 s2 hM hG hR hst hz e3 hI
              have j3 : (0 : Int) ≤ (k : Int) := by omega
              have j4 : (k : Int) < (d : Int) := by omega
              have j5 : (0 : Int) ≤ (z : Int) := by omega
              have j6 : (z : Int) < (n : Int) := by omega
              go_wp2_with fail
              go_roundw
              case rel => exact ⟨k + 1, by omega, by go_num, hnew⟩
              case measure => simp [intOf]; omega
            · obtain rfl : k = d := by omega
              obtain ⟨hM, ⟨us, hus, ho, hrs⟩, hR⟩ := hst.out
              rw [List.take_of_length_le (by rw [hd.out]; exact Nat.le_refl _)] at hM
              have hml : marks ((fcs V R x).flatten ++ Pq.orb (fx V R) x) = marks (fcs V R (x + 1)).flatten := by rw [fcs_yes hyes.out.1 hyes.out.2, List.flatten_append]; simp
              rw [hml] at hM
              have hle := fcs_le V R x
              have hba := balloc wr (.cells #[.slice ac k cc] 29)
              have hszr := Nat.le_trans hM.low hM.bel.size
              replace hM := hid hM
              replace hrs := hid hrs
              replace hR := hid hR
              replace hba := hid hba
              replace hus := hid hus
              clear hst hml
              go_wp2_with (at_builtin; refine wpList_append_own _ rfl (.tmp 47) (.tmp 49) 24 rfl w.heap.size 29 i1 _ 1 24 Tryd.underlying24 hjf hy0 hy1 hy2 rfl (by decide) _ _ _ rfl (ho.alloc _) ⟨wr.heap.size, 0, none⟩ 1 1 [.slice ac k cc] rfl rfl (one_new wr _ _) (by simp [Value.oneCell']) (by unfold maxLen; omega) (by omega) (by simp; omega) ?_; intro v5 w5 ho5 hg5 _; refine Hid.out ?_)
              have hnew : Hid (Mk w.heap.size w w5 (.slice (some ⟨w1.heap.size, 0, none⟩) n n) n (marks (fcs V R (x + 1)).flatten) ∧ Rg w.heap.size w5 v5 (fcs V R (x + 1))) := by
                refine ⟨(hM.out.more hba.out).kept (ho.alloc _) (Nat.le_refl _) hg5, ?_⟩
                rw [fcs_yes hyes.out.1 hyes.out.2]
                exact Rg.push hus.out (ho.alloc _) (fun i l u hi hj => (hrs.out i l u hi hj).more hba.out) (hR.out.more hba.out) ho5 hg5
              clear ho5 hg5 ho hM hrs hR
              refine hid ?_
              go_wp2_with fail
              go_roundw
              case rel => exact ⟨x + 1, by omega, by go_num, hnew⟩
              case measure => simp [intOf]; omega
        · have hno : ¬ (In V R x ∧ Pq.lst (fx V R) x) := fun hl => hi hl.1
          have hcx := hid (hwn.out x hi hlt wr hst.out.1.bel)
          clear hm hi
          go_wp2_with fail
          refine hcx.out.mono ?_
          rintro e w3 ⟨rfl, b3⟩
          have hnew : Hid (Mk w.heap.size w w3 (.slice (some ⟨w1.heap.size, 0, none⟩) n n) n (marks (fcs V R (x + 1)).flatten) ∧ Rg w.heap.size w3 u5 (fcs V R (x + 1))) := by rw [fcs_no hno]; exact hid ⟨hst.out.1.more b3, hst.out.2.more b3⟩
          clear hcx hst b3 hcell hno
          go_wp2_with fail
          go_roundw
          case rel => exact ⟨x + 1, by omega, by go_num, hnew⟩
          case measure => simp [intOf]; omega
    · obtain rfl : x = n := by omega
      go_wp2_with fail
      go_ret
      exact ⟨_, rfl, hst.out.2, hst.out.1.bel⟩
end
end Go.Proofs.YtieglcjfphmglaaDoor
