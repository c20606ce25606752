/- 'RingAparts', walked. -/
import Derived.Test.YtiiklklokkcnpabDoorTurned5
import Derived.Test.YtiiklklokkcnpabDoorHand5
import Derived.Test.YtiiklklokkcnpabDoorPure5
namespace Go.Proofs.YtiiklklokkcnpabDoor
open Go.RowKit
set_option linter.unusedVariables false

section
variable {n : Nat} {seq : Nat → List Nat}

theorem apart_tells (p : Part n seq) {x d : Nat} (hx : x ≠ 0) (hd : (rot (seq x) x)[1]? = some d) : rot (splS seq x d x) x = [x] ∧ rot (splS seq x d d) d = (rot (seq x) x).drop 1 := by
  obtain ⟨T, hT⟩ := rot_head (p.self x hx)
  cases T with
  | nil => rw [hT] at hd; cases hd
  | cons c Q =>
    obtain rfl : c = d := by rw [hT] at hd; simpa using hd
    have e : rot (seq x) x = x :: [] ++ c :: Q := hT
    refine ⟨?_, ?_⟩
    · rw [splS_first p hx e x List.mem_cons_self]; exact rot_self rfl
    · rw [splS_second p hx e c List.mem_cons_self, rot_self rfl, e]; rfl
end

set_option maxRecDepth 100000 in
set_option maxHeartbeats 4000000 in
theorem aparts_law (n : Int) (ad : Option Addr) (qs : List Act3) (cap : Nat) (o0 : Int) (w : World) (hg : Handle w) (hq : Acts3 w ad qs) :
    Calls Tryd.prog 3 #[.int .i64 n, .slice ad qs.length cap, .int .i64 o0] w fun e w' => e = .returned (.bool true) ∧ Below w.heap.size w w' := by
  obtain ⟨K, hK, hK1, hK2⟩ := mod_up n 20 (by decide) (by decide)
  have hK20 : K ≤ 20 := by omega
  have hql := hq.bound
  have hbu := hid (turned_ok K ad qs cap w (by omega) (by omega) hq)
  obtain ⟨a, ha, haK⟩ := mod_inN o0 K (by omega) (by omega)
  replace hg := hid hg
  clear hq
  go_enter Tryd.func3, Tryd.ntmps3
  go_wp2_with fail
  try rw [hK]
  refine hbu.out.mono ?_
  rintro e w2 ⟨rb, fb, v, seq, rfl, h2⟩
  have h2 := hid h2
  clear hbu hK
  go_wp2_with fail
  try rw [ha]
  refine (h2.out.walk a haK).mono ?_
  rintro e w3 ⟨u3, rfl, r3, h3, k3⟩
  have p := hid h3.fs.part
  obtain ⟨R, hR⟩ : ∃ R, rot (seq (a + 1)) (a + 1) = R := ⟨_, rfl⟩
  have hRl : R.length ≤ 8388610 := by rw [← hR, rot_len]; exact p.out.len _ (by omega)
  have hRm := rot_mem (x := a + 1).2 (p.out.self (a + 1) (by omega))
  rw [hR] at hRm
  have hRn : R ≠ [] := fun e => by rw [e] at hRm; cases hRm
  have hRp := List.length_pos_of_mem hRm
  obtain ⟨nR, hnR⟩ : ∃ k, R.length = k := ⟨_, rfl⟩
  have hsl : Hid ((seq (a + 1)).length = nR) := hid (by rw [← hnR, ← hR, rot_len])
  rw [hnR] at hRl hRp
  rw [hR] at r3
  obtain ⟨g3, c3, rfl, hc3, hc3m, _⟩ := r3.sl hRn nR hnR
  have hc3' : c3 ≤ 9223372036854775807 := by unfold maxLen at hc3m; omega
  have t0 : ((nR : Int) == 0) = false := by rw [beq_eq_false_iff_ne]; omega
  have t0' : ¬ (nR = 0) := by omega
  have h3 := hid h3
  have r3 := hid r3
  have hRh := hid hR
  replace hnR := hid hnR
  clear h2 k3 hR hRm ha
  by_cases h1 : nR = 1
  · subst h1
    have hone : Hid (R = [a + 1]) := hid (by
      obtain ⟨T, hT⟩ := rot_head (p.out.self (a + 1) (by omega))
      have := hnR.out
      rw [← hRh.out, hT] at this ⊢
      simp at this
      rw [this])
    have hap := hid (h3.out.apart_alone a haK hsl.out)
    go_wp2_with fail
    refine hap.out.mono ?_
    rintro e w4 ⟨rfl, h4, k4⟩
    have h4 := hid h4
    clear hap h3 k4
    go_wp2_with fail
    refine (h4.out.walk a haK).mono ?_
    rintro e w5 ⟨u5, rfl, r5, h5, k5⟩
    rw [hRh.out, hone.out] at r5
    have hlit := lit1 w5 (a : Int)
    have hb5 := (Below.refl w5.heap.size w5).alloc (Nat.le_refl _) (.cells #[.int .i64 (a : Int)] 3)
    have m5 := (r5.below hb5).ns (by simp)
    rw [show items [a + 1] = [(a : Int)] from by unfold items; simp] at m5
    replace m5 := hid m5
    replace hlit := hid hlit
    have h6 := hid (h5.alloc (.cells #[.int .i64 (a : Int)] 3))
    clear h4 k5 h5 r5 hb5
    go_wp2_with fail
    refine (ints_ok _ _ _ _ m5.out hlit.out).mono ?_
    rintro e w6 ⟨rfl, b6⟩
    have h7 := hid (h6.out.more b6)
    clear h6 b6 m5 hlit
    go_wp2_with fail
    refine (num_err 20 _ (h7.out.fs.handle hg.out rfl)).mono ?_
    rintro e w8 ⟨rfl, b8⟩
    have h8 := hid (h7.out.more b8)
    clear h7 b8
    go_wp2_with fail
    refine (sure_ok _).mono ?_
    rintro e ws ⟨rfl, bs⟩
    have hs := hid (h8.out.more bs)
    clear bs
    go_wp2_with fail
    go_ret
    exact ⟨rfl, hs.out.fs.below⟩
  · have t1 : ((nR : Int) == 1) = false := by rw [beq_eq_false_iff_ne]; omega
    have i1 : (1 : Int) < (nR : Int) := by omega
    have i1' : (1 : Int) ≤ (nR : Int) := by omega
    have i2 : (1 : Int) ≤ (c3 : Int) := by omega
    have i3 : ¬ (c3 = 1) := by omega
    have hap := hid (h3.out.apart a haK (by rw [hsl.out]; omega))
    go_wp2_with fail
    refine hap.out.mono ?_
    rintro e w4 ⟨d, hd, rfl, h4, k4⟩
    obtain ⟨s1, s2⟩ := apart_tells p.out (show a + 1 ≠ 0 by omega) hd
    have hdm : d + 1 ∈ seq (a + 1) := rot_mem.1 (List.mem_of_getElem? hd)
    have hdK : d < K := by have := p.out.le (a + 1) (d + 1) (by omega) (by omega) hdm; omega
    rw [hRh.out] at hd s2
    have r34 := hid (r3.out.keep k4)
    replace hd := hid hd
    replace s1 := hid s1
    replace s2 := hid s2
    have h4 := hid h4
    clear hap h3 k4 hdm r3
    go_wp2_with fail
    refine (h4.out.walk a haK).mono ?_
    rintro e w5 ⟨u5, rfl, r5, h5, k5⟩
    rw [s1.out] at r5
    have hlit := lit1 w5 (a : Int)
    have hb5 := (Below.refl w5.heap.size w5).alloc (Nat.le_refl _) (.cells #[.int .i64 (a : Int)] 3)
    have m5 := (r5.below hb5).ns (by simp)
    rw [show items [a + 1] = [(a : Int)] from by unfold items; simp] at m5
    have r36 := hid ((r34.out.keep k5).below hb5)
    replace m5 := hid m5
    replace hlit := hid hlit
    have h6 := hid (h5.alloc (.cells #[.int .i64 (a : Int)] 3))
    clear h4 k5 h5 r5 hb5 r34
    go_wp2_with fail
    refine (ints_ok _ _ _ _ m5.out hlit.out).mono ?_
    rintro e w6 ⟨rfl, b6⟩
    have h7 := hid (h6.out.more b6)
    have r37 := r36.out.below b6
    obtain ⟨g', c', e1, _, _, hc7⟩ := r37.sl hRn nR hnR.out
    injection e1 with e1 _ e1c
    injection e1 with e1
    injection e1 with e1
    subst e1
    have c1 := hc7 1 (d + 1) hd.out
    rw [show itm (d + 1) = .int .i64 (d : Int) from by unfold itm; congr 1; omega] at c1
    replace r37 := hid r37
    clear h6 b6 m5 hlit r36 hc7 e1c
    go_wp2_with fail
    refine (h7.out.walk d hdK).mono ?_
    rintro e w8 ⟨u8, rfl, r8, h8, k8⟩
    rw [s2.out] at r8
    have r38 := r37.out.keep k8
    have m8 := hid (r8.ns (by rw [List.length_drop, hnR.out]; omega))
    have m9 := hid (cut_rows r38 hRn nR hnR.out 1 (by omega)).2
    have h8 := hid h8
    clear h7 k8 r8 r38 r37 c1
    go_wp2_with fail
    refine (ints_ok _ _ _ _ m8.out m9.out).mono ?_
    rintro e w9 ⟨rfl, b9⟩
    have h9 := hid (h8.out.more b9)
    clear h8 b9 m8 m9
    go_wp2_with fail
    refine (sure_ok _).mono ?_
    rintro e ws ⟨rfl, bs⟩
    have hs := hid (h9.out.more bs)
    clear bs
    go_wp2_with fail
    go_ret
    exact ⟨rfl, hs.out.fs.below⟩

end Go.Proofs.YtiiklklokkcnpabDoor
