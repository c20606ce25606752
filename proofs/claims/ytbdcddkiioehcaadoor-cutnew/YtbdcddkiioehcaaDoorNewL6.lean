/- 'CutNew', walked. -/
import Derived.Test.YtbdcddkiioehcaaDoorSure6
namespace Go.Proofs.YtbdcddkiioehcaaDoor
open Go.RowKit
set_option linter.unusedVariables false

theorem road_self {a : Nat} (h : a ≠ 0) : Rd noE a a [a] := ⟨Wk.one a h, by simp⟩

set_option maxRecDepth 100000 in
set_option maxHeartbeats 8000000 in
theorem new_law (n x : Int) (w : World) (hg : Handle w) :
    Calls Tryd.prog 4 #[.int .i64 n, .int .i64 x] w fun e w' => e = .returned (.bool true) ∧ Below w.heap.size w w' := by
  have hpos : 0 < w.heap.size := World.block_lt_of_cell? w _ hg
  have hg := hid hg
  have hb0 := hid (Below.refl w.heap.size w)
  go_enter Tryd.func4, Tryd.ntmps4
  go_wp2_with fail
  refine (same_nil 0 0 _).mono ?_
  rintro e w1 ⟨rfl, b1⟩
  have hb1 := hid (hb0.out.trans (b1.mono hb0.out.size))
  clear hb0 b1
  go_wp2_with fail
  refine (len_nil 0 0 _).mono ?_
  rintro e w2 ⟨rfl, b2⟩
  have hb2 := hid (hb1.out.trans (b2.mono hb1.out.size))
  clear hb1 b2
  go_wp2_with fail
  refine (list_nil 0 0 _).mono ?_
  rintro e w3 ⟨rfl, b3⟩
  have hb3 := hid (hb2.out.trans (b3.mono hb2.out.size))
  clear hb2 b3
  go_wp2_with fail
  refine (least_nil 0 0 _).mono ?_
  rintro e w4 ⟨rfl, b4⟩
  have hb4 := hid (hb3.out.trans (b4.mono hb3.out.size))
  clear hb3 b4
  go_wp2_with fail
  refine (link_nil 0 1 _).mono ?_
  rintro e w5 ⟨rfl, b5⟩
  have hb5 := hid (hb4.out.trans (b5.mono hb4.out.size))
  clear hb4 b5
  go_wp2_with fail
  refine (num_err 1 _ (hg.out.belowB hb5.out hpos)).mono ?_
  rintro e w6 ⟨rfl, b6⟩
  have hb6 := hid (hb5.out.trans (b6.mono hb5.out.size))
  clear hb5 b6
  go_wp2_with fail
  refine (cut_nil 0 1 _).mono ?_
  rintro e w7 ⟨rfl, b7⟩
  have hb7 := hid (hb6.out.trans (b7.mono hb6.out.size))
  clear hb6 b7
  go_wp2_with fail
  refine (num_err 1 _ (hg.out.belowB hb7.out hpos)).mono ?_
  rintro e w8 ⟨rfl, b8⟩
  have hb8 := hid (hb7.out.trans (b8.mono hb7.out.size))
  clear hb7 b8
  go_wp2_with fail
  refine (set_nil 0 1 _).mono ?_
  rintro e w9 ⟨rfl, b9⟩
  have hb9 := hid (hb8.out.trans (b9.mono hb8.out.size))
  clear hb8 b9
  go_wp2_with fail
  refine (num_err 1 _ (hg.out.belowB hb9.out hpos)).mono ?_
  rintro e w10 ⟨rfl, b10⟩
  have hb10 := hid (hb9.out.trans (b10.mono hb9.out.size))
  clear hb9 b10
  go_wp2_with fail
  refine (num_err 1 _ (hg.out.belowB hb10.out hpos)).mono ?_
  rintro e w11 ⟨rfl, b11⟩
  have hb11 := hid (hb10.out.trans (b11.mono hb10.out.size))
  clear hb10 b11
  go_wp2_with fail
  refine (num_err 1 _ (hg.out.belowB hb11.out hpos)).mono ?_
  rintro e w12 ⟨rfl, b12⟩
  have hb12 := hid (hb11.out.trans (b12.mono hb11.out.size))
  clear hb11 b12
  go_wp2_with fail
  refine (num_err 1 _ (hg.out.belowB hb12.out hpos)).mono ?_
  rintro e w13 ⟨rfl, b13⟩
  have hb13 := hid (hb12.out.trans (b13.mono hb12.out.size))
  clear hb12 b13
  go_wp2_with fail
  refine (num_err 1 _ (hg.out.belowB hb13.out hpos)).mono ?_
  rintro e w14 ⟨rfl, b14⟩
  have hb14 := hid (hb13.out.trans (b14.mono hb13.out.size))
  clear hb13 b14
  obtain ⟨wa, hwa⟩ : ∃ wa, wa = w14 := ⟨_, rfl⟩
  subst hwa
  have hba := hb14
  clear hb14
  by_cases hn : n < 1
  · have t0 : decide (3000 < n) = false := decide_eq_false (by omega)
    have t1 : decide (n < 1) = true := decide_eq_true hn
    have hbad : n < 1 ∨ 8388608 < n := Or.inl hn
    clear hn
    go_wp2_with fail
    refine (new_bad n _ hbad).mono ?_
    rintro e w' ⟨rfl, rfl⟩
    have hb50 := hba
    go_wp2_with fail
    refine (num_err 1 _ (hg.out.belowB hb50.out hpos)).mono ?_
    rintro e w51 ⟨rfl, b51⟩
    have hb51 := hid (hb50.out.trans (b51.mono hb50.out.size))
    clear hb50 b51
    go_wp2_with fail
    refine (sure_ok _ (hg.out.belowB hb51.out hpos)).mono ?_
    rintro e w52 ⟨rfl, b52⟩
    have hb52 := hid (hb51.out.trans (b52.mono hb51.out.size))
    clear hb51 b52
    go_wp2_with fail
    go_ret
    exact ⟨rfl, hb52.out⟩
  · have t1 : decide (n < 1) = false := decide_eq_false hn
    by_cases hn2 : 8388608 < n
    · have t0 : decide (3000 < n) = true := decide_eq_true (by omega)
      have t2 : decide (n ≤ 8388608) = false := decide_eq_false (by omega)
      have t3 : decide (8388608 < n) = true := decide_eq_true hn2
      have hbad : n < 1 ∨ 8388608 < n := Or.inr hn2
      clear hn hn2
      go_wp2_with fail
      refine (new_bad n _ hbad).mono ?_
      rintro e w' ⟨rfl, rfl⟩
      have hb50 := hba
      go_wp2_with fail
      refine (num_err 1 _ (hg.out.belowB hb50.out hpos)).mono ?_
      rintro e w51 ⟨rfl, b51⟩
      have hb51 := hid (hb50.out.trans (b51.mono hb50.out.size))
      clear hb50 b51
      go_wp2_with fail
      refine (sure_ok _ (hg.out.belowB hb51.out hpos)).mono ?_
      rintro e w52 ⟨rfl, b52⟩
      have hb52 := hid (hb51.out.trans (b52.mono hb51.out.size))
      clear hb51 b52
      go_wp2_with fail
      go_ret
      exact ⟨rfl, hb52.out⟩
    · by_cases hn3 : 3000 < n
      · have t0 : decide (3000 < n) = true := decide_eq_true hn3
        have t2 : decide (n ≤ 8388608) = true := decide_eq_true (by omega)
        clear hn3 hn hn2
        go_wp2_with fail
        refine (new_ok 3000 _ (by omega) (by omega)).mono ?_
        rintro e v1 ⟨fb, rfl, f1⟩
        have f1 := hid f1
        by_cases hx : 0 ≤ x ∧ x < (3000 : Int)
        · obtain ⟨X, rfl⟩ : ∃ X : Nat, x = (X : Int) := ⟨x.toNat, by omega⟩
          have s1 : decide ((X : Int) < 0) = false := decide_eq_false (by omega)
          have s2 : decide ((3000 : Int) ≤ (X : Int)) = false := decide_eq_false (by omega)
          by_cases hX : X = 0
          · subst hX
            have hs := hid (f1.out.listY 0 0 (by omega) (by omega) [1] (road_self (by decide)))
            go_wp2_with fail
            refine hs.out.mono ?_
            rintro e v2 ⟨u, rfl, r2, f2, _⟩
            have hrn := hid ((r2.ns (by decide)).below ((Below.refl v2.heap.size v2).alloc (Nat.le_refl _) (.cells #[.int .i64 0] 3)))
            have hlit : Hid (Ns (v2.alloc (.cells #[.int .i64 0] 3)) (.slice (some ⟨v2.heap.size, 0, none⟩) 1 1) (items [1])) := by
              refine ⟨_, 1, rfl, fun e => (by cases e), by decide, fun a ha j z hz => ?_⟩
              cases ha
              have hj := (List.getElem?_eq_some_iff.1 hz).1
              obtain rfl : j = 0 := by simp [items] at hj; exact hj
              rw [show (⟨v2.heap.size, 0, none⟩ : Addr).add 0 = ⟨v2.heap.size, 0, none⟩ from rfl]
              unfold World.cell?
              rw [heap_alloc_new]
              cases hz; rfl
            have f2 := hid (f2.alloc (.cells #[.int .i64 0] 3))
            clear hs f1 r2
            go_wp2_with fail
            refine (ints_ok _ _ _ _ hrn.out hlit.out).mono ?_
            rintro e v3 ⟨rfl, b3⟩
            have f3 := hid (f2.out.more b3)
            have hb90 := hid (hba.out.trans (f3.out.below.mono hba.out.size))
            clear f2 f3 b3 hrn hlit
            go_wp2_with fail
            refine (sure_ok _ (hg.out.belowB hb90.out hpos)).mono ?_
            rintro e w91 ⟨rfl, b91⟩
            have hb91 := hid (hb90.out.trans (b91.mono hb90.out.size))
            clear hb90 b91
            go_wp2_with fail
            go_ret
            exact ⟨rfl, hb91.out⟩
          · have s3 : ((X : Int) == 0) = false := by simp; omega
            have hs := hid (f1.out.listN X 0 (by omega) (by omega) (no_road (fun z h => h) (by omega)))
            clear hX
            go_wp2_with fail
            refine hs.out.mono ?_
            rintro e v2 ⟨rfl, f2, _⟩
            have hb90 := hid (hba.out.trans (f2.below.mono hba.out.size))
            clear hs f1 f2
            go_wp2_with fail
            refine (num_err 21 _ (hg.out.belowB hb90.out hpos)).mono ?_
            rintro e w91 ⟨rfl, b91⟩
            have hb91 := hid (hb90.out.trans (b91.mono hb90.out.size))
            clear hb90 b91
            go_wp2_with fail
            refine (sure_ok _ (hg.out.belowB hb91.out hpos)).mono ?_
            rintro e w92 ⟨rfl, b92⟩
            have hb92 := hid (hb91.out.trans (b92.mono hb91.out.size))
            clear hb91 b92
            go_wp2_with fail
            go_ret
            exact ⟨rfl, hb92.out⟩
        · have s3 : decide (x < 0) = true ∨ (decide (x < 0) = false ∧ decide ((3000 : Int) ≤ x) = true) := by
            by_cases h0 : x < 0
            · exact Or.inl (decide_eq_true h0)
            · exact Or.inr ⟨decide_eq_false h0, decide_eq_true (by omega)⟩
          have hx1 : Hid (¬ ((0 ≤ x ∧ x < (3000 : Int)) ∧ (0 ≤ (0 : Int) ∧ (0 : Int) < (3000 : Int)))) := hid (fun e => hx e.1)
          have hx2 : Hid (¬ ((0 ≤ (0 : Int) ∧ (0 : Int) < (3000 : Int)) ∧ (0 ≤ x ∧ x < (3000 : Int)))) := hid (fun e => hx e.2)
          have hx := hid hx
          go_wp2_with fail
          refine (f1.out.list_bad x 0 hx1.out).mono ?_
          rintro e v2 ⟨rfl, f2, _⟩
          have f2 := hid f2
          clear f1
          rcases s3 with s3 | ⟨s3, s4⟩
          all_goals
            go_wp2_with fail
            refine (f2.out.sum_bad 0 x hx2.out).mono ?_
            rintro e v3 ⟨rfl, f3, _⟩
            have f3 := hid f3
            clear f2
            go_wp2_with fail
            refine (f3.out.most_bad x 0 hx1.out).mono ?_
            rintro e v4 ⟨rfl, f4, _⟩
            have f4 := hid f4
            clear f3
            go_wp2_with fail
            refine (num_err 12 _ (hg.out.belowB (hba.out.trans (f4.out.below.mono hba.out.size)) hpos)).mono ?_
            rintro e v5 ⟨rfl, b5⟩
            have f5 := hid (f4.out.more b5)
            clear f4 b5
            go_wp2_with fail
            refine (num_err 12 _ (hg.out.belowB (hba.out.trans (f5.out.below.mono hba.out.size)) hpos)).mono ?_
            rintro e v6 ⟨rfl, b6⟩
            have f6 := hid (f5.out.more b6)
            clear f5 b6
            go_wp2_with fail
            refine (num_err 12 _ (hg.out.belowB (hba.out.trans (f6.out.below.mono hba.out.size)) hpos)).mono ?_
            rintro e v7 ⟨rfl, b7⟩
            have f7 := hid (f6.out.more b7)
            clear f6 b7
            go_wp2_with fail
            refine (f7.out.set_bad x 1 hx.out).mono ?_
            rintro e v8 ⟨rfl, f8, _⟩
            have f8 := hid f8
            clear f7
            go_wp2_with fail
            refine (num_err 12 _ (hg.out.belowB (hba.out.trans (f8.out.below.mono hba.out.size)) hpos)).mono ?_
            rintro e v9 ⟨rfl, b9⟩
            have f9 := hid (f8.out.more b9)
            clear f8 b9
            have hb91 := hid (hba.out.trans (f9.out.below.mono hba.out.size))
            clear f9
            go_wp2_with fail
            refine (sure_ok _ (hg.out.belowB hb91.out hpos)).mono ?_
            rintro e w92 ⟨rfl, b92⟩
            have hb92 := hid (hb91.out.trans (b92.mono hb91.out.size))
            clear hb91 b92
            go_wp2_with fail
            go_ret
            exact ⟨rfl, hb92.out⟩
      · have t0 : decide (3000 < n) = false := decide_eq_false hn3
        have t3 : decide (8388608 < n) = false := decide_eq_false hn2
        obtain ⟨K, rfl⟩ : ∃ K : Nat, n = (K : Int) := ⟨n.toNat, by omega⟩
        have hK1 : 1 ≤ K := by omega
        have hK2 : K ≤ 3000 := by omega
        clear hn3 hn hn2
        go_wp2_with fail
        refine (new_ok K _ (by omega) (by omega)).mono ?_
        rintro e v1 ⟨fb, rfl, f1⟩
        have f1 := hid f1
        by_cases hx : 0 ≤ x ∧ x < (K : Int)
        · obtain ⟨X, rfl⟩ : ∃ X : Nat, x = (X : Int) := ⟨x.toNat, by omega⟩
          have s1 : decide ((X : Int) < 0) = false := decide_eq_false (by omega)
          have s2 : decide ((K : Int) ≤ (X : Int)) = false := decide_eq_false (by omega)
          by_cases hX : X = 0
          · subst hX
            have hs := hid (f1.out.listY 0 0 (by omega) (by omega) [1] (road_self (by decide)))
            go_wp2_with fail
            refine hs.out.mono ?_
            rintro e v2 ⟨u, rfl, r2, f2, _⟩
            have hrn := hid ((r2.ns (by decide)).below ((Below.refl v2.heap.size v2).alloc (Nat.le_refl _) (.cells #[.int .i64 0] 3)))
            have hlit : Hid (Ns (v2.alloc (.cells #[.int .i64 0] 3)) (.slice (some ⟨v2.heap.size, 0, none⟩) 1 1) (items [1])) := by
              refine ⟨_, 1, rfl, fun e => (by cases e), by decide, fun a ha j z hz => ?_⟩
              cases ha
              have hj := (List.getElem?_eq_some_iff.1 hz).1
              obtain rfl : j = 0 := by simp [items] at hj; exact hj
              rw [show (⟨v2.heap.size, 0, none⟩ : Addr).add 0 = ⟨v2.heap.size, 0, none⟩ from rfl]
              unfold World.cell?
              rw [heap_alloc_new]
              cases hz; rfl
            have f2 := hid (f2.alloc (.cells #[.int .i64 0] 3))
            clear hs f1 r2
            go_wp2_with fail
            refine (ints_ok _ _ _ _ hrn.out hlit.out).mono ?_
            rintro e v3 ⟨rfl, b3⟩
            have f3 := hid (f2.out.more b3)
            have hb90 := hid (hba.out.trans (f3.out.below.mono hba.out.size))
            clear f2 f3 b3 hrn hlit
            go_wp2_with fail
            refine (sure_ok _ (hg.out.belowB hb90.out hpos)).mono ?_
            rintro e w91 ⟨rfl, b91⟩
            have hb91 := hid (hb90.out.trans (b91.mono hb90.out.size))
            clear hb90 b91
            go_wp2_with fail
            go_ret
            exact ⟨rfl, hb91.out⟩
          · have s3 : ((X : Int) == 0) = false := by simp; omega
            have hs := hid (f1.out.listN X 0 (by omega) (by omega) (no_road (fun z h => h) (by omega)))
            clear hX
            go_wp2_with fail
            refine hs.out.mono ?_
            rintro e v2 ⟨rfl, f2, _⟩
            have hb90 := hid (hba.out.trans (f2.below.mono hba.out.size))
            clear hs f1 f2
            go_wp2_with fail
            refine (num_err 21 _ (hg.out.belowB hb90.out hpos)).mono ?_
            rintro e w91 ⟨rfl, b91⟩
            have hb91 := hid (hb90.out.trans (b91.mono hb90.out.size))
            clear hb90 b91
            go_wp2_with fail
            refine (sure_ok _ (hg.out.belowB hb91.out hpos)).mono ?_
            rintro e w92 ⟨rfl, b92⟩
            have hb92 := hid (hb91.out.trans (b92.mono hb91.out.size))
            clear hb91 b92
            go_wp2_with fail
            go_ret
            exact ⟨rfl, hb92.out⟩
        · have s3 : decide (x < 0) = true ∨ (decide (x < 0) = false ∧ decide ((K : Int) ≤ x) = true) := by
            by_cases h0 : x < 0
            · exact Or.inl (decide_eq_true h0)
            · exact Or.inr ⟨decide_eq_false h0, decide_eq_true (by omega)⟩
          have hx1 : Hid (¬ ((0 ≤ x ∧ x < (K : Int)) ∧ (0 ≤ (0 : Int) ∧ (0 : Int) < (K : Int)))) := hid (fun e => hx e.1)
          have hx2 : Hid (¬ ((0 ≤ (0 : Int) ∧ (0 : Int) < (K : Int)) ∧ (0 ≤ x ∧ x < (K : Int)))) := hid (fun e => hx e.2)
          have hx := hid hx
          go_wp2_with fail
          refine (f1.out.list_bad x 0 hx1.out).mono ?_
          rintro e v2 ⟨rfl, f2, _⟩
          have f2 := hid f2
          clear f1
          rcases s3 with s3 | ⟨s3, s4⟩
          all_goals
            go_wp2_with fail
            refine (f2.out.sum_bad 0 x hx2.out).mono ?_
            rintro e v3 ⟨rfl, f3, _⟩
            have f3 := hid f3
            clear f2
            go_wp2_with fail
            refine (f3.out.most_bad x 0 hx1.out).mono ?_
            rintro e v4 ⟨rfl, f4, _⟩
            have f4 := hid f4
            clear f3
            go_wp2_with fail
            refine (num_err 12 _ (hg.out.belowB (hba.out.trans (f4.out.below.mono hba.out.size)) hpos)).mono ?_
            rintro e v5 ⟨rfl, b5⟩
            have f5 := hid (f4.out.more b5)
            clear f4 b5
            go_wp2_with fail
            refine (num_err 12 _ (hg.out.belowB (hba.out.trans (f5.out.below.mono hba.out.size)) hpos)).mono ?_
            rintro e v6 ⟨rfl, b6⟩
            have f6 := hid (f5.out.more b6)
            clear f5 b6
            go_wp2_with fail
            refine (num_err 12 _ (hg.out.belowB (hba.out.trans (f6.out.below.mono hba.out.size)) hpos)).mono ?_
            rintro e v7 ⟨rfl, b7⟩
            have f7 := hid (f6.out.more b7)
            clear f6 b7
            go_wp2_with fail
            refine (f7.out.set_bad x 1 hx.out).mono ?_
            rintro e v8 ⟨rfl, f8, _⟩
            have f8 := hid f8
            clear f7
            go_wp2_with fail
            refine (num_err 12 _ (hg.out.belowB (hba.out.trans (f8.out.below.mono hba.out.size)) hpos)).mono ?_
            rintro e v9 ⟨rfl, b9⟩
            have f9 := hid (f8.out.more b9)
            clear f8 b9
            have hb91 := hid (hba.out.trans (f9.out.below.mono hba.out.size))
            clear f9
            go_wp2_with fail
            refine (sure_ok _ (hg.out.belowB hb91.out hpos)).mono ?_
            rintro e w92 ⟨rfl, b92⟩
            have hb92 := hid (hb91.out.trans (b92.mono hb91.out.size))
            clear hb91 b92
            go_wp2_with fail
            go_ret
            exact ⟨rfl, hb92.out⟩

end Go.Proofs.YtbdcddkiioehcaaDoor
