/- 'RingSplits', walked. -/
import Derived.Test.YtiiklklokkcnpaaDoorTurned5
import Derived.Test.YtiiklklokkcnpaaDoorHand5
import Derived.Test.YtiiklklokkcnpaaDoorPure5
namespace Go.Proofs.YtiiklklokkcnpaaDoor
open Go.RowKit
set_option linter.unusedVariables false

/-- What the search for the second item finds. -/
def Fnd (R : List Nat) (y i : Nat) (z : Int) : Prop := (z = -1 ∧ ∀ j, 1 ≤ j → j < i → R[j]? ≠ some y) ∨ ∃ j : Nat, z = (j : Int) ∧ 1 ≤ j ∧ j < i ∧ R[j]? = some y

theorem Fnd.stay {R : List Nat} {y i : Nat} {z : Int} (h : Fnd R y i z) (hn : R[i]? ≠ some y) : Fnd R y (i + 1) z := by
  rcases h with ⟨h1, h2⟩ | ⟨j, h1, h2, h3, h4⟩
  · refine Or.inl ⟨h1, fun j hj1 hj2 => ?_⟩
    by_cases e : j = i
    · rw [e]; exact hn
    · exact h2 j hj1 (by omega)
  · exact Or.inr ⟨j, h1, h2, by omega, h4⟩

theorem Fnd.hit {R : List Nat} {y i : Nat} (hi : 1 ≤ i) (hn : R[i]? = some y) : Fnd R y (i + 1) (i : Int) := Or.inr ⟨i, rfl, hi, by omega, hn⟩

section
variable {n : Nat} {seq : Nat → List Nat}

theorem Fnd.no {x y : Nat} {z : Int} (p : Part n seq) (hx : x ≠ 0) (h : Fnd (rot (seq x) x) y (rot (seq x) x).length z) (hn : x = y ∨ y ∉ seq x) : z = -1 := by
  rcases h with ⟨h1, _⟩ | ⟨j, _, h2, h3, h4⟩
  · exact h1
  · exfalso
    rcases hn with rfl | hn
    · obtain ⟨T, hT⟩ := rot_head (p.self x hx)
      have nd := rot_nd (x := x) (p.nd x hx)
      rw [hT] at h4 nd
      obtain ⟨i, rfl⟩ : ∃ i, j = i + 1 := ⟨j - 1, by omega⟩
      exact (List.nodup_cons.1 nd).1 (List.mem_of_getElem? (i := i) (by simpa using h4))
    · exact hn (rot_mem.1 (List.mem_of_getElem? h4))

theorem Fnd.yes {x y : Nat} {z : Int} (p : Part n seq) (hx : x ≠ 0) (h : Fnd (rot (seq x) x) y (rot (seq x) x).length z) (hne : x ≠ y) (hy : y ∈ seq x) : ∃ j : Nat, z = (j : Int) ∧ 1 ≤ j ∧ j < (rot (seq x) x).length ∧ rot (splS seq x y x) x = (rot (seq x) x).take j ∧ rot (splS seq x y y) y = (rot (seq x) x).drop j := by
  obtain ⟨P, Q, e, hP⟩ := rot_parts p hx hne hy
  have hj : (rot (seq x) x)[P.length + 1]? = some y := by rw [e, List.getElem?_append_right (by simp)]; simp
  have hl : (rot (seq x) x).length = P.length + 1 + (Q.length + 1) := by rw [e]; simp; omega
  rcases h with ⟨_, h2⟩ | ⟨j, h1, h2, h3, h4⟩
  · exact absurd hj (h2 _ (by omega) (by omega))
  · have hjj : j = P.length + 1 := by
      have nd := rot_nd (x := x) (p.nd x hx)
      exact (List.getElem?_inj h3 nd).1 (h4.trans hj.symm)
    refine ⟨j, h1, h2, h3, ?_, ?_⟩
    · rw [splS_first p hx e x List.mem_cons_self, rot_self rfl, e, hjj]
      simp
    · rw [splS_second p hx e y List.mem_cons_self, rot_self rfl, e, hjj]
      simp
end

set_option maxRecDepth 100000 in
set_option maxHeartbeats 4000000 in
theorem splits_law (n : Int) (ad : Option Addr) (qs : List Act3) (cap : Nat) (o0 o1 : Int) (w : World) (hg : Handle w) (hq : Acts3 w ad qs) :
    Calls Tryd.prog 6 #[.int .i64 n, .slice ad qs.length cap, .agg #[.int .i64 o0, .int .i64 o1]] w fun e w' => e = .returned (.bool true) ∧ Below w.heap.size w w' := by
  obtain ⟨K, hK, hK1, hK2⟩ := mod_up2 n 20 (by decide) (by decide)
  have hK20 : K ≤ 21 := by omega
  have hql := hq.bound
  obtain ⟨wb, hwb⟩ : ∃ wb, w.alloc (.cells #[.int .i64 o0, .int .i64 o1] 54) = wb := ⟨_, rfl⟩
  have bb : Below w.heap.size w wb := by rw [← hwb]; exact (Below.refl _ _).alloc (Nat.le_refl _) _
  have hbn : wb.heap[w.heap.size]? = some (.cells #[.int .i64 o0, .int .i64 o1] 54 (0, 0)) := by rw [← hwb]; exact heap_alloc_new w _
  obtain ⟨ob, hob⟩ : ∃ ob, w.heap.size = ob := ⟨_, rfl⟩
  have hoblt : ob < wb.heap.size := by rw [hob] at hbn; exact (Array.getElem?_eq_some_iff.1 hbn).1
  have hofs : Hid (∀ y, Below wb.heap.size wb y → y.cell? ⟨ob, 0, none⟩ = some (.int .i64 o0) ∧ y.cell? ⟨ob, 1, none⟩ = some (.int .i64 o1)) := fun y hy => by
    rw [hob] at hbn
    have e := (hy.block ob hoblt).trans hbn
    constructor <;> (unfold World.cell?; rw [e]; simp)
  have hbu := hid (turned_ok K ad qs cap wb (by omega) (by omega) (hq.below bb))
  have hg : Hid (Handle wb) := hid (hg.belowB bb (World.block_lt_of_cell? w _ hg))
  replace bb := hid bb
  clear hq hbn
  go_enter Tryd.func6, Tryd.ntmps6
  go_wp2_with fail
  try rw [hK]
  try rw [hwb]
  try rw [hob]
  refine hbu.out.mono ?_
  rintro e w1 ⟨rb, fb, v, seq, rfl, h1⟩
  obtain ⟨f0, f1⟩ := hofs.out w1 h1.fs.below
  obtain ⟨a, ha, haK⟩ := mod_inN o0 K (by omega) (by omega)
  obtain ⟨b, hb, hbK⟩ := mod_inN o1 K (by omega) (by omega)
  have h1 := hid h1
  clear hbu hK hwb hob hofs
  go_wp2_with fail
  go_region
  try rw [ha, hb]
  have h2 := hid (h1.out.drew)
  generalize w1.drew = w2 at h2 ⊢
  clear h1 f0 f1 ha hb
  go_wp2_with fail
  refine (h2.out.walk a haK).mono ?_
  rintro e w3 ⟨u3, rfl, r3, h3, k3⟩
  have p := hid h3.fs.part
  obtain ⟨R, hR⟩ : ∃ R, rot (seq (a + 1)) (a + 1) = R := ⟨_, rfl⟩
  have hRl : R.length ≤ 8388610 := by rw [← hR, rot_len]; exact p.out.len _ (by omega)
  have hRm := rot_mem (x := a + 1).2 (p.out.self (a + 1) (by omega))
  rw [hR] at hRm
  have hRn : R ≠ [] := fun e => by rw [e] at hRm; cases hRm
  have hRp := List.length_pos_of_mem hRm
  have hnz : Hid (∀ z ∈ R, z ≠ 0) := hid (fun z hz => (p.out.mem (a + 1) z (by omega) (rot_mem.1 (hR ▸ hz))).2)
  obtain ⟨nR, hnR⟩ : ∃ k, R.length = k := ⟨_, rfl⟩
  rw [hnR] at hRl hRp
  rw [hR] at r3
  obtain ⟨g3, c3, rfl, hc3, hc3m, hcell⟩ := r3.sl hRn nR hnR
  have h3 := hid h3
  have r3 := hid r3
  have hRh := hid hR
  replace hnR := hid hnR
  replace hcell := hid hcell
  have hc3' : c3 ≤ 9223372036854775807 := by unfold maxLen at hc3m; omega
  clear h2 k3 hR hRm
  go_wp2_with fail
  go_loopw [13, 14] (fun z u wr => ∃ (i : Nat) (Z : Int), 1 ≤ i ∧ i ≤ nR ∧ u = .int .i64 (i : Int) ∧ z = .int .i64 Z ∧ Hid (Fnd R (b + 1) i Z) ∧ w3 = wr) (fun _ u _ => nR - (intOf u).toNat)
  case atStart => exact ⟨1, -1, by omega, by omega, by go_num, rfl, hid (Or.inl ⟨rfl, fun j h1 h2 => by omega⟩), rfl⟩
  case round =>
    obtain ⟨i, Z, hi1, hi2, rfl, rfl, hF, rfl⟩ := hrel
    rcases Nat.lt_or_ge i nR with hil | hig
    · obtain ⟨z, hz⟩ : ∃ z, R[i]? = some z := ⟨_, List.getElem?_eq_getElem (by rw [hnR.out]; exact hil)⟩
      have hzn := hnz.out z (List.mem_of_getElem? hz)
      obtain ⟨y, rfl⟩ : ∃ y, z = y + 1 := ⟨z - 1, by omega⟩
      have c1 := hcell.out i (y + 1) hz
      rw [show itm (y + 1) = .int .i64 (y : Int) from by unfold itm; congr 1; omega] at c1
      have k1 : (0 : Int) ≤ (i : Int) := by omega
      have k2 : (i : Int) < (nR : Int) := by omega
      by_cases hyb : y = b
      · subst hyb
        have nx := hid (Fnd.hit hi1 hz)
        clear hz hF
        go_wp2_with fail
        go_roundw
        case rel => exact ⟨i + 1, (i : Int), by omega, by omega, by go_num, rfl, nx, by trivial⟩
        case measure => simp [intOf]; omega
      · have t1 : ((y : Int) == (b : Int)) = false := by rw [beq_eq_false_iff_ne]; omega
        have nx := hid (hF.out.stay (by rw [hz]; intro e; injection e with e; omega))
        clear hz hF
        go_wp2_with fail
        go_roundw
        case rel => exact ⟨i + 1, Z, by omega, by omega, by go_num, rfl, nx, by trivial⟩
        case measure => simp [intOf]; omega
    · have hF : Hid (Fnd (rot (seq (a + 1)) (a + 1)) (b + 1) (rot (seq (a + 1)) (a + 1)).length Z) := hid (by
        rw [hRh.out, hnR.out, show nR = i by omega]; exact hF.out)
      by_cases hab : a = b
      · subst hab
        obtain rfl : Z = -1 := hF.out.no p.out (by omega) (Or.inl rfl)
        have hsp := hid (h3.out.split_self a haK)
        go_wp2_with fail
        refine hsp.out.mono ?_
        rintro e w4 ⟨rfl, h4, k4⟩
        have h4 := hid h4
        clear hsp h3 k4
        go_wp2_with fail
        refine (num_err 20 _ (h4.out.fs.handle hg.out rfl)).mono ?_
        rintro e w5 ⟨rfl, b5⟩
        have h5 := hid (h4.out.more b5)
        clear h4 b5
        go_wp2_with fail
        refine (sure_ok _).mono ?_
        rintro e ws ⟨rfl, bs⟩
        have hs := hid (h5.out.more bs)
        clear bs
        go_wp2_with fail
        go_ret
        exact ⟨rfl, bb.out.trans (hs.out.fs.below.mono bb.out.size)⟩
      · have t1 : ((a : Int) == (b : Int)) = false := by rw [beq_eq_false_iff_ne]; omega
        have t1' : ((a : Int) != (b : Int)) = true := by rw [bne_iff_ne]; omega
        by_cases hin : b + 1 ∈ seq (a + 1)
        · obtain ⟨j, rfl, hj1, hj2, s1, s2⟩ := hF.out.yes p.out (show a + 1 ≠ 0 by omega) (show a + 1 ≠ b + 1 by omega) hin
          rw [hRh.out] at hj2 s1 s2
          rw [hnR.out] at hj2
          have hsp := hid (h3.out.split a b haK hbK hab hin)
          replace s1 := hid s1
          replace s2 := hid s2
          have t2 : decide ((j : Int) < 0) = false := decide_eq_false (by omega)
          have i1 : (0 : Int) ≤ (j : Int) := by omega
          have i2 : (j : Int) ≤ (nR : Int) := by omega
          have i3 : (j : Int) ≤ (c3 : Int) := by omega
          have i4 : c3 ≠ j := by omega
          clear hin hF
          go_wp2_with fail
          refine hsp.out.mono ?_
          rintro e w4 ⟨rfl, h4, k4⟩
          have r34 := hid (r3.out.keep k4)
          have h4 := hid h4
          clear hsp h3 r3 k4
          go_wp2_with fail
          refine (h4.out.walk a haK).mono ?_
          rintro e w5 ⟨u5, rfl, r5, h5, k5⟩
          rw [s1.out] at r5
          have r35 := hid (r34.out.keep k5)
          have h5 := hid h5
          have r5 := hid r5
          clear h4 r34 k5
          go_wp2_with fail
          refine (h5.out.walk b hbK).mono ?_
          rintro e w6 ⟨u6, rfl, r6, h6, k6⟩
          rw [s2.out] at r6
          have r36 := r35.out.keep k6
          have m5 := hid ((r5.out.keep k6).ns (by rw [List.length_take, hnR.out]; omega))
          have m6 := hid (r6.ns (by rw [List.length_drop, hnR.out]; omega))
          obtain ⟨m7, m8⟩ := cut_rows r36 hRn nR hnR.out j (by omega)
          rw [show min j nR = j by omega] at m7
          replace m7 := hid m7
          replace m8 := hid m8
          have h6 := hid h6
          clear h5 r35 r5 k6 r36 r6
          go_wp2_with fail
          refine (ints_ok _ _ _ _ m5.out m7.out).mono ?_
          rintro e w7 ⟨rfl, b7⟩
          have h7 := hid (h6.out.more b7)
          have m67 := hid (m6.out.below b7)
          have m87 := hid (m8.out.below b7)
          clear h6 m5 m6 m7 m8 b7
          go_wp2_with fail
          refine (ints_ok _ _ _ _ m67.out m87.out).mono ?_
          rintro e w8 ⟨rfl, b8⟩
          have h8 := hid (h7.out.more b8)
          clear h7 m67 m87 b8
          go_wp2_with fail
          refine (sure_ok _).mono ?_
          rintro e ws ⟨rfl, bs⟩
          have hs := hid (h8.out.more bs)
          clear bs
          go_wp2_with fail
          go_ret
          exact ⟨rfl, bb.out.trans (hs.out.fs.below.mono bb.out.size)⟩
        · obtain rfl : Z = -1 := hF.out.no p.out (by omega) (Or.inr hin)
          have hsp := hid (h3.out.split_apart a b haK hbK hin)
          clear hin hF
          go_wp2_with fail
          refine hsp.out.mono ?_
          rintro e w4 ⟨rfl, h4, k4⟩
          have h4 := hid h4
          clear hsp h3 k4
          go_wp2_with fail
          refine (num_err 21 _ (h4.out.fs.handle hg.out rfl)).mono ?_
          rintro e w5 ⟨rfl, b5⟩
          have h5 := hid (h4.out.more b5)
          clear h4 b5
          go_wp2_with fail
          refine (sure_ok _).mono ?_
          rintro e ws ⟨rfl, bs⟩
          have hs := hid (h5.out.more bs)
          clear bs
          go_wp2_with fail
          go_ret
          exact ⟨rfl, bb.out.trans (hs.out.fs.below.mono bb.out.size)⟩

end Go.Proofs.YtiiklklokkcnpaaDoor
