/- 'RingBack', walked. -/
import Derived.Test.YtiiklklokkcnpaaSure5
import Derived.Test.YtiiklklokkcnpaaOpen5
namespace Go.Proofs.Ytiiklklokkcnpaa
open Go.RowKit
set_option linter.unusedVariables false

theorem mod_up2 (n M : Int) (h1 : 1 ≤ M) (h2 : M ≤ 1000000) : ∃ K : Nat, wrap64 (2 + wrap64 ((IntKind.u64.wrap n).tmod M)) = (K : Int) ∧ 2 ≤ K ∧ (K : Int) ≤ M + 1 := by
  have e : (IntKind.u64.wrap n).tmod M = n % 18446744073709551616 % M := by
    rw [IntKind.wrap_u64, Int.tmod_eq_emod_of_nonneg (by omega)]
  have g1 : 0 ≤ n % 18446744073709551616 % M := Int.emod_nonneg _ (by omega)
  have g2 : n % 18446744073709551616 % M < M := Int.emod_lt_of_pos _ (by omega)
  rw [e]
  generalize n % 18446744073709551616 % M = r at g1 g2
  refine ⟨(2 + r).toNat, ?_, by omega, by omega⟩
  have w1 : wrap64 r = r := IntWalk.wrap64_in r ⟨by omega, by omega⟩
  have w2 : wrap64 (2 + r) = 2 + r := IntWalk.wrap64_in _ ⟨by omega, by omega⟩
  rw [w1, w2]
  omega

section
variable {n : Nat} {seq : Nat → List Nat}

/-- Split, and merged again. -/
theorem back_split (h : Part n seq) {x y : Nat} (hx : x ≠ 0) (hne : x ≠ y) (hy : y ∈ seq x) : y ∉ splS seq x y x ∧ rot (mrgS (splS seq x y) x y x) x = rot (seq x) x ∧ rot (mrgS (splS seq x y) x y y) y = rot (seq y) y := by
  obtain ⟨P, Q, e, hP⟩ := rot_parts h hx hne hy
  have e1 := splS_first h hx e x List.mem_cons_self
  have e2 := splS_second h hx e y List.mem_cons_self
  have e3 : rot (x :: P) x = x :: P := rot_self rfl
  have e4 : rot (y :: Q) y = y :: Q := rot_self rfl
  have m1 : mrgS (splS seq x y) x y x = rot (seq x) x := by
    unfold mrgS
    rw [e1, e2, if_pos (Or.inl List.mem_cons_self), e3, e4, e]
  have m2 : mrgS (splS seq x y) x y y = rot (seq x) x := by
    unfold mrgS
    rw [e1, e2, if_pos (Or.inr List.mem_cons_self), e3, e4, e]
  have hs := (h.mem x y hx hy).1
  refine ⟨by rw [e1]; exact hP, ?_, ?_⟩
  · rw [m1]
    exact rot_rot (h.nd x hx) (h.self x hx) (h.self x hx)
  · rw [m2, hs]
    exact rot_rot (h.nd x hx) (h.self x hx) hy

/-- Merged, and split again. -/
theorem back_merge (h : Part n seq) {x y : Nat} (hx : x ≠ 0) (hy0 : y ≠ 0) (hy : y ∉ seq x) : y ∈ mrgS seq x y x ∧ rot (splS (mrgS seq x y) x y x) x = rot (seq x) x ∧ rot (splS (mrgS seq x y) x y y) y = rot (seq y) y := by
  obtain ⟨P, hP⟩ := rot_head (h.self x hx)
  obtain ⟨Q, hQ⟩ := rot_head (h.self y hy0)
  have hyP : y ∉ x :: P := fun hm => hy (rot_mem.1 (hP ▸ hm))
  have m1 : mrgS seq x y x = x :: P ++ y :: Q := by
    unfold mrgS
    rw [if_pos (Or.inl (h.self x hx)), hP, hQ]
  have e0 : rot (mrgS seq x y x) x = x :: P ++ y :: Q := by rw [m1]; exact rot_self rfl
  have s1 : splS (mrgS seq x y) x y = cutS (mrgS seq x y) (x :: P) y Q := splS_of e0 hyP
  refine ⟨by rw [m1]; simp, ?_, ?_⟩
  · rw [s1]
    unfold cutS
    rw [if_pos List.mem_cons_self, hP]
    exact rot_self rfl
  · rw [s1]
    unfold cutS
    rw [if_neg hyP, if_pos List.mem_cons_self, hQ]
    exact rot_self rfl

theorem Rw.nsr {w : World} {u : Value} {x : Nat} (h : Part n seq) (hx : x ≠ 0) (hr : Rw w u (rot (seq x) x)) : Ns w u (items (rot (seq x) x)) := hr.ns (by rw [rot_len]; have := h.len x hx; omega)
end

set_option maxRecDepth 100000 in
set_option maxHeartbeats 8000000 in
theorem back_law (n : Int) (ad : Option Addr) (qs : List Act3) (cap : Nat) (o0 o1 : Int) (w : World) (hq : Acts3 w ad qs) :
    Calls Try.prog 3 #[.int .i64 n, .slice ad qs.length cap, .agg #[.int .i64 o0, .int .i64 o1]] w fun e w' => e = .returned (.bool true) ∧ Below w.heap.size w w' := by
  obtain ⟨K, hK, hK1, hK2⟩ := mod_up2 n 20 (by decide) (by decide)
  have hK20 : K ≤ 21 := by omega
  have hql := hq.bound
  obtain ⟨wb, hwb⟩ : ∃ wb, w.alloc (.cells #[.int .i64 o0, .int .i64 o1] 23) = wb := ⟨_, rfl⟩
  have bb : Below w.heap.size w wb := by rw [← hwb]; exact (Below.refl _ _).alloc (Nat.le_refl _) _
  have hbn : wb.heap[w.heap.size]? = some (.cells #[.int .i64 o0, .int .i64 o1] 23 (0, 0)) := by rw [← hwb]; exact heap_alloc_new w _
  obtain ⟨ob, hob⟩ : ∃ ob, w.heap.size = ob := ⟨_, rfl⟩
  have hoblt : ob < wb.heap.size := by rw [hob] at hbn; exact (Array.getElem?_eq_some_iff.1 hbn).1
  have hofs : Hid (∀ y, Below wb.heap.size wb y → y.cell? ⟨ob, 0, none⟩ = some (.int .i64 o0) ∧ y.cell? ⟨ob, 1, none⟩ = some (.int .i64 o1)) := fun y hy => by
    rw [hob] at hbn
    have e := (hy.block ob hoblt).trans hbn
    constructor <;> (unfold World.cell?; rw [e]; simp)
  have hnew := hid (gnew_ok K wb (by omega) (by omega))
  replace hq := hid (hq.below bb)
  replace bb := hid bb
  clear hbn
  go_enter Try.func3, Try.ntmps3
  go_wp2_with fail
  try rw [hK]
  try rw [hwb]
  try rw [hob]
  refine hnew.out.mono ?_
  rintro e w1 ⟨rb, fb, rfl, h1⟩
  have st1 : Hid (∃ v seq, RG wb.heap.size wb rb fb K v seq w1) := ⟨_, _, h1⟩
  clear h1 hnew hwb hob hK
  go_wp2_with fail
  go_loopw [10, 11, 12] (fun u _ _ wr => ∃ t : Nat, t ≤ qs.length ∧ t ≤ 40 ∧ u = .int .i64 (t : Int) ∧ Hid (∃ v seq, RG wb.heap.size wb rb fb K v seq wr)) (fun u _ _ _ => 40 - (intOf u).toNat)
  case atStart => exact ⟨0, by omega, by omega, by go_num, st1⟩
  case round =>
    clear st1
    obtain ⟨t, ht1, ht2, rfl, hst⟩ := hrel
    by_cases hgo : t < qs.length ∧ t < 40
    · obtain ⟨hgo1, hgo2⟩ := hgo
      obtain ⟨q, hqt⟩ : ∃ q, qs[t]? = some q := ⟨_, List.getElem?_eq_getElem hgo1⟩
      obtain ⟨v, seq, h1⟩ := hst.out
      cases ad with
      | none => have := hq.out.nil rfl; subst this; simp at hgo1
      | some a0 =>
        obtain ⟨c0, c1, c2⟩ := (hq.out.below h1.fs.below).at hqt
        have h1 := hid h1
        obtain ⟨a, ha, haK⟩ := mod_inN q.a K (by omega) (by omega)
        obtain ⟨b, hb, hbK⟩ := mod_inN q.b K (by omega) (by omega)
        have i1 : (0 : Int) ≤ (t : Int) := by omega
        have i2 : (t : Int) < (qs.length : Int) := by omega
        clear hqt hst
        go_wp2_with fail
        go_region
        rw [ha, hb]
        have h2 := hid (h1.out.drew)
        generalize hwd : wr.drew = w2 at h2 ⊢
        have d0 : w2.cell? (a0.add (t * 3)) = some (.int .i64 q.k) := by rw [← hwd]; exact c0
        clear h1 c0 c1 c2 ha hb hwd
        cases hk4 : (Int.tmod q.k 4 == 0) with
        | true =>
          go_wp2_with fail
          refine (h2.out.splitAny a b haK hbK).mono ?_
          rintro e w3 ⟨r3, rfl, seq3, h3⟩
          have st4 : Hid (∃ v seq, RG wb.heap.size wb rb fb K v seq w3) := ⟨_, _, h3⟩
          clear h2 h3 d0
          go_wp2_with fail
          go_roundw
          case rel => exact ⟨t + 1, by omega, by omega, by go_num, st4⟩
          case measure => simp [intOf]; omega
        | false =>
          go_wp2_with fail
          refine (h2.out.mergeAny a b haK hbK).mono ?_
          rintro e w3 ⟨r3, rfl, seq3, h3⟩
          have st4 : Hid (∃ v seq, RG wb.heap.size wb rb fb K v seq w3) := ⟨_, _, h3⟩
          clear h2 h3 d0
          go_wp2_with fail
          go_roundw
          case rel => exact ⟨t + 1, by omega, by omega, by go_num, st4⟩
          case measure => simp [intOf]; omega
    · have hstop : qs.length ≤ t ∨ (t < qs.length ∧ 40 ≤ t) := by omega
      clear hgo
      obtain ⟨v, seq, h1⟩ := hst.out
      obtain ⟨f0, f1⟩ := hofs.out wr h1.fs.below
      obtain ⟨x, hxe, hxK⟩ := mod_inN o0 K (by omega) (by omega)
      obtain ⟨y, hye, hyK⟩ := mod_inN o1 K (by omega) (by omega)
      have h1 := hid h1
      clear hst hofs
      rcases hstop with hstop | ⟨hstop1, hstop2⟩
      all_goals
        go_wp2_with fail
        go_region
        rw [hxe, hye]
        have h2 := hid (h1.out.drew)
        generalize wr.drew = w2 at h2 ⊢
        clear h1 f0 f1 hxe hye
        go_wp2_with fail
        refine (h2.out.walk x hxK).mono ?_
        rintro e w3 ⟨u3, rfl, r3, h3, k3⟩
        have p := hid h3.fs.part
        have h3 := hid h3
        have r3 := hid r3
        clear h2 k3
        go_wp2_with fail
        refine (h3.out.walk y hyK).mono ?_
        rintro e w4 ⟨u4, rfl, r4, h4, k4⟩
        have r34 := hid (r3.out.keep k4)
        have h4 := hid h4
        have r4 := hid r4
        clear h3 r3 k4
        by_cases hin : y + 1 ∈ seq (x + 1)
        · have hsame := hid (h4.out.same x y hxK hyK true (decide_eq_true ((p.out.one (by omega) (by omega)).2 hin)))
          go_wp2_with fail
          refine hsame.out.mono ?_
          rintro e w5 ⟨rfl, h5, k5⟩
          have r35 := hid (r34.out.keep k5)
          have r45 := hid (r4.out.keep k5)
          have h5 := hid h5
          clear hsame h4 r34 r4 k5
          by_cases hxy : x = y
          · subst hxy
            clear hin
            go_wp2_with fail
            refine (sure_ok _).mono ?_
            rintro e w9 ⟨rfl, b9⟩
            have h9 := hid (h5.out.more b9)
            clear b9
            go_wp2_with fail
            go_ret
            exact ⟨rfl, bb.out.trans (h9.out.fs.below.mono bb.out.size)⟩
          · have t1 : ((x : Int) == (y : Int)) = false := by rw [beq_eq_false_iff_ne]; omega
            obtain ⟨b1, b2, b3⟩ := back_split p.out (show x + 1 ≠ 0 by omega) (show x + 1 ≠ y + 1 by omega) hin
            have hsp := hid (h5.out.split x y hxK hyK hxy hin)
            replace b1 := hid b1
            replace b2 := hid b2
            replace b3 := hid b3
            go_wp2_with fail
            refine hsp.out.mono ?_
            rintro e w6 ⟨rfl, h6, k6⟩
            have r36 := hid (r35.out.keep k6)
            have r46 := hid (r45.out.keep k6)
            have hmg := hid (h6.merge x y hxK hyK b1.out)
            clear hsp h5 h6 r35 r45 k6 hin
            go_wp2_with fail
            refine hmg.out.mono ?_
            rintro e w7 ⟨rfl, h7, k7⟩
            have r37 := hid (r36.out.keep k7)
            have r47 := hid (r46.out.keep k7)
            have h7 := hid h7
            clear hmg r36 r46 k7
            go_wp2_with fail
            refine (h7.out.walk x hxK).mono ?_
            rintro e w8 ⟨u8, rfl, r8, h8, k8⟩
            rw [b2.out] at r8
            have r8 := hid r8
            have r38 := hid (r37.out.keep k8)
            have r48 := hid (r47.out.keep k8)
            have h8 := hid h8
            clear h7 r37 r47 k8
            go_wp2_with fail
            refine (h8.out.walk y hyK).mono ?_
            rintro e w9 ⟨u9, rfl, r9, h9, k9⟩
            rw [b3.out] at r9
            have ra := hid ((r38.out.keep k9).nsr p.out (by omega))
            have rb' := hid ((r48.out.keep k9).nsr p.out (by omega))
            have rc := hid ((r8.out.keep k9).nsr p.out (by omega))
            have rd := hid (r9.nsr p.out (by omega))
            have h9 := hid h9
            clear h8 r38 r48 r8 k9 r9
            go_wp2_with fail
            refine (ints_ok _ _ _ _ rc.out ra.out).mono ?_
            rintro e wa ⟨rfl, ba⟩
            have ha := hid (h9.out.more ba)
            have rd' := hid (rd.out.below ba)
            have rb2 := hid (rb'.out.below ba)
            clear rc ra rd rb' h9 ba
            go_wp2_with fail
            refine (ints_ok _ _ _ _ rd'.out rb2.out).mono ?_
            rintro e wc ⟨rfl, bc⟩
            have hc := hid (ha.out.more bc)
            clear ha rd' rb2 bc
            go_wp2_with fail
            refine (sure_ok _).mono ?_
            rintro e wd ⟨rfl, bd⟩
            have hd := hid (hc.out.more bd)
            clear hc bd
            go_wp2_with fail
            go_ret
            exact ⟨rfl, bb.out.trans (hd.out.fs.below.mono bb.out.size)⟩
        · have hxy : x ≠ y := fun e => hin (by rw [e]; exact p.out.self _ (by omega))
          have t1 : ((x : Int) == (y : Int)) = false := by rw [beq_eq_false_iff_ne]; omega
          have hsame := hid (h4.out.same x y hxK hyK false (decide_eq_false (fun e => hin ((p.out.one (by omega) (by omega)).1 e))))
          go_wp2_with fail
          refine hsame.out.mono ?_
          rintro e w5 ⟨rfl, h5, k5⟩
          have r35 := hid (r34.out.keep k5)
          have r45 := hid (r4.out.keep k5)
          obtain ⟨b1, b2, b3⟩ := back_merge p.out (show x + 1 ≠ 0 by omega) (show y + 1 ≠ 0 by omega) hin
          have hmg := hid (h5.merge x y hxK hyK hin)
          replace b1 := hid b1
          replace b2 := hid b2
          replace b3 := hid b3
          clear hsame h4 h5 r34 r4 k5 hin
          go_wp2_with fail
          refine hmg.out.mono ?_
          rintro e w6 ⟨rfl, h6, k6⟩
          have r36 := hid (r35.out.keep k6)
          have r46 := hid (r45.out.keep k6)
          have hsp := hid (h6.split x y hxK hyK hxy b1.out)
          clear hmg h6 r35 r45 k6
          go_wp2_with fail
          refine hsp.out.mono ?_
          rintro e w7 ⟨rfl, h7, k7⟩
          have r37 := hid (r36.out.keep k7)
          have r47 := hid (r46.out.keep k7)
          have h7 := hid h7
          clear hsp r36 r46 k7
          go_wp2_with fail
          refine (h7.out.walk x hxK).mono ?_
          rintro e w8 ⟨u8, rfl, r8, h8, k8⟩
          rw [b2.out] at r8
          have r8 := hid r8
          have r38 := hid (r37.out.keep k8)
          have r48 := hid (r47.out.keep k8)
          have h8 := hid h8
          clear h7 r37 r47 k8
          go_wp2_with fail
          refine (h8.out.walk y hyK).mono ?_
          rintro e w9 ⟨u9, rfl, r9, h9, k9⟩
          rw [b3.out] at r9
          have ra := hid ((r38.out.keep k9).nsr p.out (by omega))
          have rb' := hid ((r48.out.keep k9).nsr p.out (by omega))
          have rc := hid ((r8.out.keep k9).nsr p.out (by omega))
          have rd := hid (r9.nsr p.out (by omega))
          have h9 := hid h9
          clear h8 r38 r48 r8 k9 r9
          go_wp2_with fail
          refine (ints_ok _ _ _ _ rc.out ra.out).mono ?_
          rintro e wa ⟨rfl, ba⟩
          have ha := hid (h9.out.more ba)
          have rd' := hid (rd.out.below ba)
          have rb2 := hid (rb'.out.below ba)
          clear rc ra rd rb' h9 ba
          go_wp2_with fail
          refine (ints_ok _ _ _ _ rd'.out rb2.out).mono ?_
          rintro e wc ⟨rfl, bc⟩
          have hc := hid (ha.out.more bc)
          clear ha rd' rb2 bc
          go_wp2_with fail
          refine (sure_ok _).mono ?_
          rintro e wd ⟨rfl, bd⟩
          have hd := hid (hc.out.more bd)
          clear hc bd
          go_wp2_with fail
          go_ret
          exact ⟨rfl, bb.out.trans (hd.out.fs.below.mono bb.out.size)⟩

end Go.Proofs.Ytiiklklokkcnpaa
