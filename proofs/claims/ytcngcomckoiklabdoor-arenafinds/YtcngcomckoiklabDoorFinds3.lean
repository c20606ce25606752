/- 'ArenaFinds', walked. -/
import Derived.Test.YtcngcomckoiklabDoorGive3
import Derived.Deep.RegionHeld3
namespace Go.Proofs.YtcngcomckoiklabDoor
open Go.RowKit

theorem lives_get {ps : List (Int × Int)} {i x : Nat} (h : (lives ps)[i]? = some x) : (atP ps x).2 = 1 := ((lv_mem ps ps.length x).1 (List.mem_of_getElem? h)).2

theorem livesI_get {ps : List (Int × Int)} {i : Nat} (h : i < (livesI ps).length) : ∃ x : Nat, (livesI ps)[i]? = some (x : Int) ∧ (atP ps x).2 = 1 := by
  have hl : i < (lives ps).length := by simpa [livesI] using h
  exact ⟨(lives ps)[i], by simp [livesI, hl], lives_get (List.getElem?_eq_getElem hl)⟩

set_option maxRecDepth 100000 in
set_option maxHeartbeats 4000000 in
theorem finds_law (n : Int) (ad : Option Addr) (ps : List (Int × Int)) (cap : Nat) (age : Int) (w : World) (hE : Env w) (h : Prow w ad ps) (hb : ps.length * 16 ≤ 140737488355328) :
    Calls Tryd.prog 4 #[.int .i64 n, .slice ad ps.length cap, .int .u32 age] w fun e w' => e = .returned (.bool true) ∧ Below w.heap.size w w' := by
  obtain ⟨K, hK, hK1, hK2⟩ := mod_up n 20 (by decide) (by decide)
  have hl := h.bound
  have hEh := hid hE
  have hph := hid h
  clear hE h
  rcases Nat.lt_or_ge 100 ps.length with hbig | hsm
  · go_enter Tryd.func4, Tryd.ntmps4
    go_wp2_with fail
    refine (sure_ok _ hEh.out.2).mono ?_
    rintro e w1 ⟨rfl, b1⟩
    go_wp2_with fail
    go_ret
    exact ⟨rfl, b1⟩
  · rcases Nat.lt_or_ge K ps.length with hk | hk
    · have hN1 : 1 ≤ ps.length := by omega
      go_enter Tryd.func4, Tryd.ntmps4
      go_wp2_with fail
      refine (give_ok ad ps cap _ hph.out hb).mono ?_
      rintro e w1 ⟨ad1, cap1, rfl, hp1, h01, b1⟩
      have hE1 := hid (hEh.out.below b1)
      have hb1 := hid b1
      by_cases hf : Fair ps.length ps
      · have hld := SA.load ps.length ad1 ps cap1 w1 hE1.out.2 hp1 h01 hN1 (by omega) hf
        clear hp1 h01 b1 hph hf
        go_wp2_with fail
        refine hld.mono ?_
        rintro e w2 ⟨ab, rfl, s2⟩
        have s2h := hid s2
        clear hld s2
        go_wp2_with fail
        refine s2h.out.all.mono ?_
        rintro e w3 ⟨av, ac, rfl, hI, b3⟩
        have hIh := hid hI
        have s3 := hid (s2h.out.more b3)
        have hlv := livesI_length ps
        have hlv2 := liveN_le ps
        clear hI s2h b3
        go_wp2_with fail
        go_loopw [11] (fun u wr => ∃ i : Nat, i ≤ (livesI ps).length ∧ u = .int .i64 (i : Int) ∧ Hid (SA w1.heap.size w2.heap.size ab ps.length w1 ps wr) ∧ Hid (Below w3.heap.size w3 wr))
          (fun u _ => (livesI ps).length - (intOf u).toNat)
        case atStart => exact ⟨0, by omega, by go_num, s3, hid (Below.refl _ _)⟩
        case round =>
          obtain ⟨i, hi, rfl, hs, hbr⟩ := hrel
          clear s3
          rcases Nat.lt_or_ge i (livesI ps).length with hlt | hge
          · obtain ⟨x, hx, hx1⟩ := livesI_get hlt
            obtain ⟨A, hA⟩ : ∃ A, atP ps x = (A, 1) := ⟨(atP ps x).1, by rw [← hx1]⟩
            have hAh := hid hA
            have hxl := live_lt hx1
            have hok := hid (hs.out.fair.ok x (A, 1) (by rw [← hA]; exact live_get hx1))
            have hA0 : A ≠ 0 := by
              obtain ⟨_, _, h3⟩ := hok.out
              rcases h3 with ⟨h3, _⟩ | ⟨_, h3⟩ | ⟨h3, _⟩
              · simp at h3
              · exact h3
              · simp at h3
            have tA0 : (A == 0) = false := by simpa using hA0
            cases av with
            | none => have := hIh.out.nil rfl; rw [this] at hlt; simp at hlt
            | some av =>
              have hcl := (hIh.out.below hbr.out).cell av rfl i _ hx
              have hclh := hid (fun y (hy : Below w3.heap.size w3 y) => (hIh.out.below hy).cell av rfl i _ hx)
              clear hx hx1 hA hok hA0
              go_wp2_with fail
              refine (hs.out.handle x hAh.out).mono ?_
              rintro e w4 ⟨rfl, b4⟩
              have s4 := hid ((hs.out.more b4).alloc (.cells #[.int .u32 A, .int .u32 (x : Int)] 35))
              have hb4 := hid (hbr.out.trans ((b4.alloc b4.size (.cells #[.int .u32 A, .int .u32 (x : Int)] 35)).mono hbr.out.size))
              have c4 := hid (heap_alloc_new w4 (.cells #[.int .u32 A, .int .u32 (x : Int)] 35))
              clear hs hbr b4 hcl
              go_wp2_with fail
              refine (s4.out.find x hAh.out).mono ?_
              rintro e w5 ⟨rfl, b5⟩
              have s5 := hid (s4.out.more b5)
              have hb5 := hid (hb4.out.trans (b5.mono hb4.out.size))
              have c5 := hid ((b5.block _ (by simp)).trans c4.out)
              obtain ⟨x0, x1⟩ := blk2 c5.out
              clear s4 hb4 c4 b5
              by_cases hag : age = A
              · subst hag
                go_wp2_with fail
                refine (s5.out.find x hAh.out).mono ?_
                rintro e w6 ⟨rfl, b6⟩
                have s6 := hid (s5.out.more b6)
                have hb6 := hid (hb5.out.trans (b6.mono hb5.out.size))
                have c6 := hid ((b6.block _ (Array.getElem?_eq_some_iff.1 c5.out).1).trans c5.out)
                have hcl6 := hclh.out w6 hb6.out
                clear x0 x1
                obtain ⟨x0, x1⟩ := blk2 c6.out
                clear s5 hb5 c5 b6
                go_wp2_with fail
                go_region
                go_wp2_with fail
                go_roundw
                case rel => exact ⟨i + 1, by omega, by go_num, hid s6.out.drew, hid hb6.out.drew⟩
                case measure => simp [intOf]; omega
              · have tag : (age == A) = false := by simpa using hag
                go_wp2_with fail
                refine (s5.out.findErr (A := age) x (by omega) 13 (Or.inr ⟨by omega, by rw [hAh.out]; intro e; exact hag (congrArg Prod.fst e).symm, rfl⟩)).mono ?_
                rintro e w6 ⟨rfl, b6⟩
                have s6 := hid (s5.out.more b6)
                have hb6 := hid (hb5.out.trans (b6.mono hb5.out.size))
                have c6 := hid ((b6.block _ (Array.getElem?_eq_some_iff.1 c5.out).1).trans c5.out)
                have hcl6 := hclh.out w6 hb6.out
                clear x0 x1
                obtain ⟨x0, x1⟩ := blk2 c6.out
                have HS : Hid (∀ y, Below w6.heap.size w6 y → Below w6.heap.size w6 y ∧ y.cell? (av.add i) = some (.int .i64 (x : Int)) ∧ y.cell? ⟨w4.heap.size, 0, none⟩ = some (.int .u32 A)) := fun y hy => ⟨hy, hclh.out y (hb6.out.trans (hy.mono hb6.out.size)), (blk2 ((hy.block _ (Array.getElem?_eq_some_iff.1 c6.out).1).trans c6.out)).1⟩
                have HK : Hid (∀ y z, Below y.heap.size y z → Below w6.heap.size w6 y → Below w6.heap.size w6 z ∧ z.cell? (av.add i) = some (.int .i64 (x : Int)) ∧ z.cell? ⟨w4.heap.size, 0, none⟩ = some (.int .u32 A)) := fun y z hz hy => HS.out z (hy.trans (hz.mono hy.size))
                have HN : Hid (∀ y, Below w6.heap.size w6 y → Handle y) := fun y hy => ((s6.out.more hy).handleIs hE1.out.1)
                have href : Below w6.heap.size w6 w6 := Below.refl _ _
                clear s5 hb5 c5 b6
                go_wp2_with fail
                go_region_held3 (fun y => Below w6.heap.size w6 y ∧ y.cell? (av.add i) = some (.int .i64 (x : Int)) ∧ y.cell? ⟨w4.heap.size, 0, none⟩ = some (.int .u32 A))
                  (first | exact HS.out _ href.drew | exact HS.out _ href | assumption | exact HK.out _ _ (by assumption) (by first | assumption | exact (And.left (by assumption))))
                  ((go_at_call 8; refine (num_err 13 _ (HN.out _ (by first | assumption | exact (And.left (by assumption))))).mono ?_; rintro e w7 ⟨rfl, b7⟩))
                all_goals
                  go_wp2_with fail
                  go_roundw
                  case rel => exact ⟨i + 1, by omega, by go_num, hid (s6.out.more (by first | assumption | exact (And.left (by assumption)))), hid (hb6.out.trans (Below.mono (by first | assumption | exact (And.left (by assumption))) hb6.out.size))⟩
                  case measure => simp [intOf]; omega
          · have hln := hs.out.len
            rw [← hlv] at hln
            go_wp2_with fail
            refine hln.mono ?_
            rintro e w4 ⟨rfl, b4⟩
            have s4 := hid (hs.out.more b4)
            clear hs b4 hln
            go_wp2_with fail
            refine (sure_ok _ s4.out.env).mono ?_
            rintro e w5 ⟨rfl, b5⟩
            have s5 := hid (s4.out.more b5)
            clear s4 b5
            go_wp2_with fail
            go_ret
            exact ⟨rfl, hb1.out.trans (s5.out.below.mono hb1.out.size)⟩
      · have hld := load3_bad ps.length ad1 ps cap1 w1 hp1 hN1 (by omega) hf
        clear hp1 h01 b1 hph hf
        go_wp2_with fail
        refine hld.mono ?_
        rintro e w2 ⟨rfl, b2⟩
        have hE2 := hid (hE1.out.below b2)
        have hb2 := hid (hb1.out.trans (b2.mono hb1.out.size))
        clear hld b2
        go_wp2_with fail
        refine (sure_ok _ hE2.out.2).mono ?_
        rintro e w3 ⟨rfl, b3⟩
        have hb3 := hid (hb2.out.trans (b3.mono hb2.out.size))
        clear b3
        go_wp2_with fail
        go_ret
        exact ⟨rfl, hb3.out⟩
    · have hN1 : 1 ≤ K := by omega
      have hNl : ps.length ≤ K := hk
      have hK3 : K ≤ 20 := by omega
      go_enter Tryd.func4, Tryd.ntmps4
      go_wp2_with fail
      refine (give_ok ad ps cap _ hph.out hb).mono ?_
      rintro e w1 ⟨ad1, cap1, rfl, hp1, h01, b1⟩
      have hE1 := hid (hEh.out.below b1)
      have hb1 := hid b1
      by_cases hf : Fair K ps
      · have hld := SA.load K ad1 ps cap1 w1 hE1.out.2 hp1 h01 hN1 (by omega) hf
        clear hp1 h01 b1 hph hf
        go_wp2_with fail
        refine hld.mono ?_
        rintro e w2 ⟨ab, rfl, s2⟩
        have s2h := hid s2
        clear hld s2
        go_wp2_with fail
        refine s2h.out.all.mono ?_
        rintro e w3 ⟨av, ac, rfl, hI, b3⟩
        have hIh := hid hI
        have s3 := hid (s2h.out.more b3)
        have hlv := livesI_length ps
        have hlv2 := liveN_le ps
        clear hI s2h b3
        go_wp2_with fail
        go_loopw [11] (fun u wr => ∃ i : Nat, i ≤ (livesI ps).length ∧ u = .int .i64 (i : Int) ∧ Hid (SA w1.heap.size w2.heap.size ab K w1 ps wr) ∧ Hid (Below w3.heap.size w3 wr))
          (fun u _ => (livesI ps).length - (intOf u).toNat)
        case atStart => exact ⟨0, by omega, by go_num, s3, hid (Below.refl _ _)⟩
        case round =>
          obtain ⟨i, hi, rfl, hs, hbr⟩ := hrel
          clear s3
          rcases Nat.lt_or_ge i (livesI ps).length with hlt | hge
          · obtain ⟨x, hx, hx1⟩ := livesI_get hlt
            obtain ⟨A, hA⟩ : ∃ A, atP ps x = (A, 1) := ⟨(atP ps x).1, by rw [← hx1]⟩
            have hAh := hid hA
            have hxl := live_lt hx1
            have hok := hid (hs.out.fair.ok x (A, 1) (by rw [← hA]; exact live_get hx1))
            have hA0 : A ≠ 0 := by
              obtain ⟨_, _, h3⟩ := hok.out
              rcases h3 with ⟨h3, _⟩ | ⟨_, h3⟩ | ⟨h3, _⟩
              · simp at h3
              · exact h3
              · simp at h3
            have tA0 : (A == 0) = false := by simpa using hA0
            cases av with
            | none => have := hIh.out.nil rfl; rw [this] at hlt; simp at hlt
            | some av =>
              have hcl := (hIh.out.below hbr.out).cell av rfl i _ hx
              have hclh := hid (fun y (hy : Below w3.heap.size w3 y) => (hIh.out.below hy).cell av rfl i _ hx)
              clear hx hx1 hA hok hA0
              go_wp2_with fail
              refine (hs.out.handle x hAh.out).mono ?_
              rintro e w4 ⟨rfl, b4⟩
              have s4 := hid ((hs.out.more b4).alloc (.cells #[.int .u32 A, .int .u32 (x : Int)] 35))
              have hb4 := hid (hbr.out.trans ((b4.alloc b4.size (.cells #[.int .u32 A, .int .u32 (x : Int)] 35)).mono hbr.out.size))
              have c4 := hid (heap_alloc_new w4 (.cells #[.int .u32 A, .int .u32 (x : Int)] 35))
              clear hs hbr b4 hcl
              go_wp2_with fail
              refine (s4.out.find x hAh.out).mono ?_
              rintro e w5 ⟨rfl, b5⟩
              have s5 := hid (s4.out.more b5)
              have hb5 := hid (hb4.out.trans (b5.mono hb4.out.size))
              have c5 := hid ((b5.block _ (by simp)).trans c4.out)
              obtain ⟨x0, x1⟩ := blk2 c5.out
              clear s4 hb4 c4 b5
              by_cases hag : age = A
              · subst hag
                go_wp2_with fail
                refine (s5.out.find x hAh.out).mono ?_
                rintro e w6 ⟨rfl, b6⟩
                have s6 := hid (s5.out.more b6)
                have hb6 := hid (hb5.out.trans (b6.mono hb5.out.size))
                have c6 := hid ((b6.block _ (Array.getElem?_eq_some_iff.1 c5.out).1).trans c5.out)
                have hcl6 := hclh.out w6 hb6.out
                clear x0 x1
                obtain ⟨x0, x1⟩ := blk2 c6.out
                clear s5 hb5 c5 b6
                go_wp2_with fail
                go_region
                go_wp2_with fail
                go_roundw
                case rel => exact ⟨i + 1, by omega, by go_num, hid s6.out.drew, hid hb6.out.drew⟩
                case measure => simp [intOf]; omega
              · have tag : (age == A) = false := by simpa using hag
                go_wp2_with fail
                refine (s5.out.findErr (A := age) x (by omega) 13 (Or.inr ⟨by omega, by rw [hAh.out]; intro e; exact hag (congrArg Prod.fst e).symm, rfl⟩)).mono ?_
                rintro e w6 ⟨rfl, b6⟩
                have s6 := hid (s5.out.more b6)
                have hb6 := hid (hb5.out.trans (b6.mono hb5.out.size))
                have c6 := hid ((b6.block _ (Array.getElem?_eq_some_iff.1 c5.out).1).trans c5.out)
                have hcl6 := hclh.out w6 hb6.out
                clear x0 x1
                obtain ⟨x0, x1⟩ := blk2 c6.out
                have HS : Hid (∀ y, Below w6.heap.size w6 y → Below w6.heap.size w6 y ∧ y.cell? (av.add i) = some (.int .i64 (x : Int)) ∧ y.cell? ⟨w4.heap.size, 0, none⟩ = some (.int .u32 A)) := fun y hy => ⟨hy, hclh.out y (hb6.out.trans (hy.mono hb6.out.size)), (blk2 ((hy.block _ (Array.getElem?_eq_some_iff.1 c6.out).1).trans c6.out)).1⟩
                have HK : Hid (∀ y z, Below y.heap.size y z → Below w6.heap.size w6 y → Below w6.heap.size w6 z ∧ z.cell? (av.add i) = some (.int .i64 (x : Int)) ∧ z.cell? ⟨w4.heap.size, 0, none⟩ = some (.int .u32 A)) := fun y z hz hy => HS.out z (hy.trans (hz.mono hy.size))
                have HN : Hid (∀ y, Below w6.heap.size w6 y → Handle y) := fun y hy => ((s6.out.more hy).handleIs hE1.out.1)
                have href : Below w6.heap.size w6 w6 := Below.refl _ _
                clear s5 hb5 c5 b6
                go_wp2_with fail
                go_region_held3 (fun y => Below w6.heap.size w6 y ∧ y.cell? (av.add i) = some (.int .i64 (x : Int)) ∧ y.cell? ⟨w4.heap.size, 0, none⟩ = some (.int .u32 A))
                  (first | exact HS.out _ href.drew | exact HS.out _ href | assumption | exact HK.out _ _ (by assumption) (by first | assumption | exact (And.left (by assumption))))
                  ((go_at_call 8; refine (num_err 13 _ (HN.out _ (by first | assumption | exact (And.left (by assumption))))).mono ?_; rintro e w7 ⟨rfl, b7⟩))
                all_goals
                  go_wp2_with fail
                  go_roundw
                  case rel => exact ⟨i + 1, by omega, by go_num, hid (s6.out.more (by first | assumption | exact (And.left (by assumption)))), hid (hb6.out.trans (Below.mono (by first | assumption | exact (And.left (by assumption))) hb6.out.size))⟩
                  case measure => simp [intOf]; omega
          · have hln := hs.out.len
            rw [← hlv] at hln
            go_wp2_with fail
            refine hln.mono ?_
            rintro e w4 ⟨rfl, b4⟩
            have s4 := hid (hs.out.more b4)
            clear hs b4 hln
            go_wp2_with fail
            refine (sure_ok _ s4.out.env).mono ?_
            rintro e w5 ⟨rfl, b5⟩
            have s5 := hid (s4.out.more b5)
            clear s4 b5
            go_wp2_with fail
            go_ret
            exact ⟨rfl, hb1.out.trans (s5.out.below.mono hb1.out.size)⟩
      · have hld := load3_bad K ad1 ps cap1 w1 hp1 hN1 (by omega) hf
        clear hp1 h01 b1 hph hf
        go_wp2_with fail
        refine hld.mono ?_
        rintro e w2 ⟨rfl, b2⟩
        have hE2 := hid (hE1.out.below b2)
        have hb2 := hid (hb1.out.trans (b2.mono hb1.out.size))
        clear hld b2
        go_wp2_with fail
        refine (sure_ok _ hE2.out.2).mono ?_
        rintro e w3 ⟨rfl, b3⟩
        have hb3 := hid (hb2.out.trans (b3.mono hb2.out.size))
        clear b3
        go_wp2_with fail
        go_ret
        exact ⟨rfl, hb3.out⟩

end Go.Proofs.YtcngcomckoiklabDoor
