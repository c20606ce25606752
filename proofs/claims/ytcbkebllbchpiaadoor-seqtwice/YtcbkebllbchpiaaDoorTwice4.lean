/- 'SeqTwice', walked. -/
import Derived.Test.YtcbkebllbchpiaaDoorLaws4
namespace Go.Proofs.YtcbkebllbchpiaaDoor
open Go.RowKit
set_option linter.unusedVariables false

set_option maxRecDepth 100000 in
set_option maxHeartbeats 8000000 in
theorem twice_law (n : Int) (ad : Option Addr) (qs : List Act4) (cap : Nat) (x : Int) (w : World) (hg : Handle w) (hq : Acts w ad qs) :
    Calls Tryd.prog 6 #[.int .i64 n, .slice ad qs.length cap, .int .i64 x] w fun e w' => e = .returned (.bool true) ∧ Below w.heap.size w w' := by
  obtain ⟨K, hK, hK1, hK2⟩ := mod_up n 30 (by decide) (by decide)
  have hql := hq.bound
  have hg := hid hg
  have hq := hid hq
  go_enter Tryd.func6, Tryd.ntmps6
  go_wp2_with fail
  try rw [hK]
  refine (new_ok K w (by omega) (by omega)).mono ?_
  rintro e w1 ⟨fb, rfl, h1⟩
  have st1 : Hid (∃ v seq, FS w.heap.size w fb K v seq w1) := ⟨_, _, h1⟩
  have hK30 : K ≤ 30 := by omega
  clear h1 hK hK2
  go_wp2_with fail
  go_loopw [10, 11, 12] (fun u _ _ wr => ∃ t : Nat, t ≤ qs.length ∧ t ≤ 60 ∧ u = .int .i64 (t : Int) ∧ Hid (∃ v seq, FS w.heap.size w fb K v seq wr)) (fun u _ _ _ => 60 - (intOf u).toNat)
  case atStart => exact ⟨0, by omega, by omega, by go_num, st1⟩
  case round =>
    clear st1
    obtain ⟨t, ht1, ht2, rfl, hst⟩ := hrel
    by_cases hgo : t < qs.length ∧ t < 60
    · obtain ⟨hgo1, hgo2⟩ := hgo
      obtain ⟨q, hqt⟩ : ∃ q, qs[t]? = some q := ⟨_, List.getElem?_eq_getElem hgo1⟩
      obtain ⟨v, seq, h1⟩ := hst.out
      cases ad with
      | none => have := hq.out.nil rfl; subst this; simp at hgo1
      | some a0 =>
        obtain ⟨c0, c1, c2, c3⟩ := (hq.out.below h1.below).at hqt
        have h1 := hid h1
        obtain ⟨a, ha, haK⟩ := mod_inN q.a K hK1 (by omega)
        obtain ⟨b, hb, hbK⟩ := mod_inN q.b K hK1 (by omega)
        have i1 : (0 : Int) ≤ (t : Int) := by omega
        have i2 : (t : Int) < (qs.length : Int) := by omega
        clear hqt hst
        go_wp2_with fail
        go_region
        rw [ha, hb]
        have h2 := hid (h1.out.more (Below.refl _ _).drew)
        generalize hwd : wr.drew = w2 at h2 ⊢
        have c0 : w2.cell? (a0.add (t * 4)) = some (.int .i64 q.k) := by rw [← hwd]; exact c0
        clear h1 c1 c2 c3 ha hb hwd
        by_cases hk : q.k.tmod 3 = 0
        · have tk : (q.k.tmod 3 == 0) = true := by simpa using hk
          clear hk
          go_wp2_with fail
          refine (h2.out.reverseAny a haK).mono ?_
          rintro e w3 ⟨r3, rfl, ⟨seq3, h3⟩, _⟩
          have h3 := hid h3
          clear h2 c0
          go_wp2_with fail
          refine (h3.out.joinAny a b haK hbK).mono ?_
          rintro e w4 ⟨r4, rfl, ⟨seq4, h4⟩, _⟩
          have st4 : Hid (∃ v seq, FS w.heap.size w fb K v seq w4) := ⟨_, _, h4⟩
          clear h3 h4
          go_wp2_with fail
          go_roundw
          case rel => exact ⟨t + 1, by omega, by omega, by go_num, st4⟩
          case measure => simp [intOf]; omega
        · have tk : (q.k.tmod 3 == 0) = false := by simpa using hk
          clear hk
          go_wp2_with fail
          refine (h2.out.joinAny a b haK hbK).mono ?_
          rintro e w4 ⟨r4, rfl, ⟨seq4, h4⟩, _⟩
          have st4 : Hid (∃ v seq, FS w.heap.size w fb K v seq w4) := ⟨_, _, h4⟩
          clear h2 h4 c0
          go_wp2_with fail
          go_roundw
          case rel => exact ⟨t + 1, by omega, by omega, by go_num, st4⟩
          case measure => simp [intOf]; omega
    · have hstop : qs.length ≤ t ∨ (t < qs.length ∧ 60 ≤ t) := by omega
      obtain ⟨v, seq, h1⟩ := hst.out
      have h1 := hid h1
      obtain ⟨y, hy, hyK⟩ := mod_inN x K hK1 (by omega)
      clear hgo hst
      rcases hstop with hstop | ⟨hstop1, hstop2⟩
      all_goals
        go_wp2_with fail
        try rw [hy]
        refine (h1.out.list y hyK).mono ?_
        rintro e w2 ⟨u2, rfl, r2, h2, _⟩
        obtain ⟨Y, hY⟩ : ∃ Y, y + 1 = Y := ⟨_, rfl⟩
        have hYh := hid hY
        have hY0 : Y ≠ 0 := by omega
        rw [hY] at r2
        have p2 := hid h2.part
        obtain ⟨S, hS⟩ : ∃ S, seq Y = S := ⟨_, rfl⟩
        have hSh := hid hS
        rw [hS] at r2
        have hSl : S.length ≤ 8388610 := by rw [← hS]; exact p2.out.len Y hY0
        have r2 := hid r2
        have h2 := hid h2
        clear h1 hS
        go_wp2_with fail
        refine (h2.out.reverse y hyK).mono ?_
        rintro e w3 ⟨rfl, h3, k3⟩
        rw [hY] at h3
        have p3 := h3.part
        have r3 := hid (r2.out.keep k3)
        have h3 := hid h3
        clear h2 r2 k3
        go_wp2_with fail
        refine (h3.out.reverse y hyK).mono ?_
        rintro e w4 ⟨rfl, h4, k4⟩
        rw [hY] at h4
        have r4 := hid (r3.out.keep k4)
        have e4 : Hid (revS (revS seq Y) Y Y = S) := hid (by rw [revS_self p3 hY0, revS_self p2.out hY0, List.reverse_reverse]; exact hSh.out)
        have h4 := hid h4
        clear h3 r3 k4 p3
        generalize revS (revS seq Y) Y = seq4 at h4 e4
        go_wp2_with fail
        refine (h4.out.list y hyK).mono ?_
        rintro e w5 ⟨u5, rfl, r5, h5, k5⟩
        rw [hY, e4.out] at r5
        have r4 := hid (r4.out.keep k5)
        have r5 := hid r5
        have h5 := hid h5
        clear h4 k5
        go_wp2_with fail
        refine (h5.out.cut y hyK).mono ?_
        rintro e w6 ⟨A, B, eAB, rfl, h6, k6⟩
        rw [hY] at eAB h6
        rw [e4.out] at eAB
        have r46 := hid (r4.out.keep k6)
        have n46 := hid ((r4.out.keep k6).ns (by omega))
        have n5 := hid ((r5.out.keep k6).ns (by omega))
        obtain ⟨a2, c2, hu2, hn2, hcell2⟩ := (r4.out.keep k6).form
        subst hu2
        have h6 := hid h6
        have pS : Hid (S.Nodup) := hid (by rw [← hSh.out]; exact p2.out.nd Y hY0)
        have hSpos : S.length ≠ 0 := by rw [eAB]; simp
        have tS : ((S.length : Int) == 0) = false := by rw [beq_eq_false_iff_ne]; omega
        cases a2 with
        | none => have := hn2 rfl; rw [this] at hSpos; simp at hSpos
        | some a2 =>
          obtain ⟨g, rfl, hcell⟩ := hcell2 a2 rfl
          clear h5 r4 r5 k6 hn2 hcell2
          cases A with
          | nil =>
            have hc0 : w6.cell? ⟨g, 0, none⟩ = some (.int .i64 (y : Int)) := by
              rw [hcell 0 Y (by rw [eAB]; rfl)]; unfold itm; rw [← hY]; congr 2; omega
            have e6 : Hid (cutS seq4 [] Y B Y = S) := hid (by unfold cutS; rw [if_neg (by simp), if_pos List.mem_cons_self, eAB]; rfl)
            clear hcell eAB
            go_wp2_with fail
            refine (ints_ok _ _ _ _ n46.out n5.out).mono ?_
            rintro e w7 ⟨rfl, b7⟩
            have h7 := hid (h6.out.more b7)
            have r7 := hid (r46.out.below b7)
            have hc7 : w7.cell? ⟨g, 0, none⟩ = some (.int .i64 (y : Int)) := by rw [b7.cell (World.block_lt_of_cell? w6 _ hc0)]; exact hc0
            clear h6 n46 n5 r46 b7 hc0
            go_wp2_with fail
            refine (h7.out.list y hyK).mono ?_
            rintro e w8 ⟨u8, rfl, r8, h8, k8⟩
            rw [hY, e6.out] at r8
            have n8 := hid (r8.ns (by omega))
            have n7 := hid ((r7.out.keep k8).ns (by omega))
            have h8 := hid h8
            clear h7 r7 r8 k8 hc7
            go_wp2_with fail
            refine (ints_ok _ _ _ _ n8.out n7.out).mono ?_
            rintro e w9 ⟨rfl, b9⟩
            have h9 := hid (h8.out.more b9)
            clear h8 n8 n7 b9
            go_wp2_with fail
            refine (sure_ok _ (h9.out.handle hg.out rfl)).mono ?_
            rintro e w10 ⟨rfl, b10⟩
            have h10 := hid (h9.out.more b10)
            clear h9 b10
            go_wp2_with fail
            go_ret
            exact ⟨rfl, h10.out.below⟩
          | cons h0 A' =>
            have hm0 : h0 ∈ seq Y := by rw [hSh.out, eAB]; simp
            have hle := p2.out.le Y h0 hY0 (by omega) hm0
            obtain ⟨z, rfl⟩ : ∃ z, h0 = z + 1 := ⟨h0 - 1, by have := (p2.out.mem Y h0 hY0 hm0).2; omega⟩
            have hYA : Hid (Y ∉ (z + 1) :: A') := hid (by
              have hn := pS.out
              rw [eAB, List.nodup_append] at hn
              exact fun e => hn.2.2 Y e Y List.mem_cons_self rfl)
            have hzy : z ≠ y := fun e => hYA.out (by rw [← hY, e]; exact List.mem_cons_self)
            have hzK : z < K := by omega
            have tz : ((z : Int) != (y : Int)) = true := by simp; omega
            have hc0 : w6.cell? ⟨g, 0, none⟩ = some (.int .i64 (z : Int)) := by
              rw [hcell 0 (z + 1) (by rw [eAB]; rfl)]; unfold itm; congr 2; omega
            have s1 : Hid (cutS seq4 ((z + 1) :: A') Y B (z + 1) = (z + 1) :: A') := hid (by unfold cutS; rw [if_pos List.mem_cons_self])
            have s2 : Hid (cutS seq4 ((z + 1) :: A') Y B Y = Y :: B) := hid (by unfold cutS; rw [if_neg hYA.out, if_pos List.mem_cons_self])
            have eABh := hid eAB
            clear hcell eAB
            generalize cutS seq4 ((z + 1) :: A') Y B = seq6 at h6 s1 s2
            have hne : Hid (seq6 (z + 1) ≠ seq6 (y + 1)) := hid (by
              rw [hY, s1.out, s2.out]
              exact fun e => hYA.out (by rw [e]; exact List.mem_cons_self))
            have e7 : Hid (joinS seq6 (z + 1) Y Y = S) := hid (by
              unfold joinS
              rw [s1.out, s2.out, if_pos (Or.inr List.mem_cons_self)]
              exact eABh.out.symm)
            go_wp2_with fail
            refine (ints_ok _ _ _ _ n46.out n5.out).mono ?_
            rintro e w7 ⟨rfl, b7⟩
            have h7 := hid (h6.out.more b7)
            have r7 := hid (r46.out.below b7)
            have hc7 : w7.cell? ⟨g, 0, none⟩ = some (.int .i64 (z : Int)) := by rw [b7.cell (World.block_lt_of_cell? w6 _ hc0)]; exact hc0
            clear h6 n46 n5 r46 b7 hc0
            go_wp2_with fail
            refine (h7.out.join z y hzK hyK hne.out).mono ?_
            rintro e w8 ⟨rfl, h8, k8⟩
            rw [hY] at h8
            have r8 := hid (r7.out.keep k8)
            have h8 := hid h8
            clear h7 r7 k8 hc7
            go_wp2_with fail
            refine (h8.out.list y hyK).mono ?_
            rintro e w9 ⟨u9, rfl, r9, h9, k9⟩
            rw [hY, e7.out] at r9
            have n9 := hid (r9.ns (by omega))
            have n8 := hid ((r8.out.keep k9).ns (by omega))
            have h9 := hid h9
            clear h8 r8 r9 k9
            go_wp2_with fail
            refine (ints_ok _ _ _ _ n9.out n8.out).mono ?_
            rintro e w10 ⟨rfl, b10⟩
            have h10 := hid (h9.out.more b10)
            clear h9 n9 n8 b10
            go_wp2_with fail
            refine (sure_ok _ (h10.out.handle hg.out rfl)).mono ?_
            rintro e w11 ⟨rfl, b11⟩
            have h11 := hid (h10.out.more b11)
            clear h10 b11
            go_wp2_with fail
            go_ret
            exact ⟨rfl, h11.out.below⟩

end Go.Proofs.YtcbkebllbchpiaaDoor
