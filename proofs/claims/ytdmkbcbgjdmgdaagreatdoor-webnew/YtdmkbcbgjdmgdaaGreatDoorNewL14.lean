/- The law WebNew, walked: of how many items and ties there can be a web; nothing of a nil one. -/
import Derived.Test.YtdmkbcbgjdmgdaaGreatDoorBringb
import Derived.Test.YtdmkbcbgjdmgdaaGreatDoorBwn
namespace Go.Proofs.YtdmkbcbgjdmgdaaGreatDoor
open Go.RowKit
set_option linter.unusedVariables false

set_option maxRecDepth 100000 in
set_option maxHeartbeats 8000000 in
theorem new_law (n m : Int) (w : World) (hg : Handle w) : Calls Tryz.prog 4 #[.int .i64 n, .int .i64 m] w fun e w' => e = .returned (.bool true) ∧ Below w.heap.size w w' := by
  have hg := hid hg
  have B0 : Hid (Below w.heap.size w w) := hid (Below.refl _ _)
  go_enter Tryz.func4, Tryz.ntmps4
  go_wp2_with fail
  refine (wsame_nil _ _ _).mono ?_
  rintro e w1 ⟨rfl, b1⟩
  have B1 := hid (bt B0.out b1)
  clear b1 B0
  go_wp2_with fail
  refine (wlinked_nil _ _ _).mono ?_
  rintro e w2 ⟨rfl, b2⟩
  have B2 := hid (bt B1.out b2)
  clear b2 B1
  go_wp2_with fail
  refine (wweak_nil _ _ _).mono ?_
  rintro e w3 ⟨rfl, b3⟩
  have B3 := hid (bt B2.out b3)
  clear b3 B2
  go_wp2_with fail
  refine (wwalk_nil _ _).mono ?_
  rintro e w4 ⟨rfl, b4⟩
  have B4 := hid (bt B3.out b4)
  clear b4 B3
  go_wp2_with fail
  refine (num_err 1 _ (hg.out.below B4.out)).mono ?_
  rintro e w5 ⟨rfl, b5⟩
  have B5 := hid (bt B4.out b5)
  clear b5 B4
  go_wp2_with fail
  refine (num_err 1 _ (hg.out.below B5.out)).mono ?_
  rintro e w6 ⟨rfl, b6⟩
  have B6 := hid (bt B5.out b6)
  clear b6 B5
  go_wp2_with fail
  refine (num_err 1 _ (hg.out.below B6.out)).mono ?_
  rintro e w7 ⟨rfl, b7⟩
  have B7 := hid (bt B6.out b7)
  clear b7 B6
  go_wp2_with fail
  refine (num_err 1 _ (hg.out.below B7.out)).mono ?_
  rintro e w8 ⟨rfl, b8⟩
  have B8 := hid (bt B7.out b8)
  clear b8 B7
  go_wp2_with fail
  refine (wsplit_nil _ _ _).mono ?_
  rintro e w9 ⟨rfl, b9⟩
  have B9 := hid (bt B8.out b9)
  clear b9 B8
  go_wp2_with fail
  refine (num_err 1 _ (hg.out.below B9.out)).mono ?_
  rintro e w10 ⟨rfl, b10⟩
  have B10 := hid (bt B9.out b10)
  clear b10 B9
  go_wp2_with fail
  refine (wmerge_nil _ _ _).mono ?_
  rintro e w11 ⟨rfl, b11⟩
  have B11 := hid (bt B10.out b11)
  clear b11 B10
  go_wp2_with fail
  refine (num_err 1 _ (hg.out.below B11.out)).mono ?_
  rintro e w12 ⟨rfl, b12⟩
  have B12 := hid (bt B11.out b12)
  clear b12 B11
  go_wp2_with fail
  refine (wapart_nil _ _).mono ?_
  rintro e w13 ⟨rfl, b13⟩
  have B13 := hid (bt B12.out b13)
  clear b13 B12
  go_wp2_with fail
  refine (num_err 1 _ (hg.out.below B13.out)).mono ?_
  rintro e w14 ⟨rfl, b14⟩
  have B14 := hid (bt B13.out b14)
  clear b14 B13
  go_wp2_with fail
  refine (wtie_nil _ _ _ _ _).mono ?_
  rintro e w15 ⟨rfl, b15⟩
  have B15 := hid (bt B14.out b15)
  clear b15 B14
  go_wp2_with fail
  refine (num_err 1 _ (hg.out.below B15.out)).mono ?_
  rintro e w16 ⟨rfl, b16⟩
  have B16 := hid (bt B15.out b16)
  clear b16 B15
  go_wp2_with fail
  refine (wuntie_nil _ _).mono ?_
  rintro e w17 ⟨rfl, b17⟩
  have B17 := hid (bt B16.out b17)
  clear b17 B16
  go_wp2_with fail
  refine (num_err 1 _ (hg.out.below B17.out)).mono ?_
  rintro e w18 ⟨rfl, b18⟩
  have B18 := hid (bt B17.out b18)
  clear b18 B17
  go_wp2_with fail
  refine (wtied_nil _ _).mono ?_
  rintro e w19 ⟨rfl, b19⟩
  have B19 := hid (bt B18.out b19)
  clear b19 B18
  by_cases h1 : 1 ≤ n
  · by_cases h2 : n ≤ 4194304
    · by_cases h3 : 1 ≤ m
      · by_cases h4 : m ≤ 1048576
        · have t1 : decide (1 ≤ n) = true := decide_eq_true h1
          have t2 : decide (n ≤ 4194304) = true := decide_eq_true h2
          have t3 : decide (1 ≤ m) = true := decide_eq_true h3
          have t4 : decide (m ≤ 1048576) = true := decide_eq_true h4
          by_cases h5 : 2000 < n
          · have t5 : decide (2000 < n) = true := decide_eq_true h5
            go_wp2_with fail
            refine (sure_ok _ (hg.out.below B19.out)).mono ?_
            rintro e w20 ⟨rfl, b20⟩
            have B20 := hid (bt B19.out b20)
            clear b20 B19
            go_wp2_with fail
            go_ret
            exact ⟨rfl, B20.out⟩
          · have t5 : decide (2000 < n) = false := decide_eq_false h5
            by_cases h6 : 2000 < m
            · have t6 : decide (2000 < m) = true := decide_eq_true h6
              go_wp2_with fail
              refine (sure_ok _ (hg.out.below B19.out)).mono ?_
              rintro e w20 ⟨rfl, b20⟩
              have B20 := hid (bt B19.out b20)
              clear b20 B19
              go_wp2_with fail
              go_ret
              exact ⟨rfl, B20.out⟩
            · have t6 : decide (2000 < m) = false := decide_eq_false h6
              obtain ⟨N, rfl⟩ : ∃ N : Nat, n = (N : Int) := ⟨n.toNat, by omega⟩
              obtain ⟨M, rfl⟩ : ∃ M : Nat, m = (M : Int) := ⟨m.toNat, by omega⟩
              have eN : ((N - 1 : Nat) : Int) = (N : Int) - 1 := by omega
              have eM : ((M - 1 : Nat) : Int) = (M : Int) - 1 := by omega
              replace eN := hid eN
              replace eM := hid eM
              go_wp2_with fail
              refine (WQ.new N M _ (by omega) (by omega) (by omega) (by omega) (fun _ => 0)).mono ?_
              rintro e y1 ⟨wb, rfl, q1⟩
              have hwk := q1.walk (N - 1) (by omega)
              rw [eN.out] at hwk
              replace hwk := hid hwk
              clear q1
              go_wp2_with fail
              refine hwk.out.mono ?_
              rintro e y2 ⟨u, rfl, hu, q2, _⟩
              have hns : Hid (Ns y2 u [(N : Int) - 1]) := by
                have := hu.ns (by rw [rot_len]; simp [one])
                rw [rot_one] at this
                simp only [items, List.map_cons, List.map_nil] at this
                rw [show (((N - 1 + 1 : Nat)) : Int) - 1 = (N : Int) - 1 by have := eN.out; omega] at this
                exact hid this
              replace q2 := hid q2
              clear hwk hu
              have hin := hid (ints_ok u _ [(N : Int) - 1] _ (hns.out.below ((Below.refl _ _).alloc (Nat.le_refl _) (.cells #[.int .i64 ((N : Int) - 1)] 3))) (lit1 y2 ((N : Int) - 1)))
              go_wp2_with fail
              refine hin.out.mono ?_
              rintro e y3 ⟨rfl, b3⟩
              have q3 := (q2.out.alloc (.cells #[.int .i64 ((N : Int) - 1)] 3)).more b3
              have hu1 := q3.untieN (M - 1) (by omega) rfl
              rw [eM.out] at hu1
              replace hu1 := hid hu1
              clear hin hns q2 b3 q3
              go_wp2_with fail
              refine hu1.out.mono ?_
              rintro e y4 ⟨rfl, q4, _⟩
              have hn4 := hid (num_err 21 y4 (hg.out.below (bt B19.out q4.below)))
              replace q4 := hid q4
              clear hu1
              go_wp2_with fail
              refine hn4.out.mono ?_
              rintro e y5 ⟨rfl, b5⟩
              have q5 := q4.out.more b5
              have hu2 := hid (q5.untie_bad (M : Int) (by omega))
              clear hn4 b5 q4 q5
              go_wp2_with fail
              refine hu2.out.mono ?_
              rintro e y6 ⟨rfl, q6, _⟩
              have hn6 := hid (num_err 12 y6 (hg.out.below (bt B19.out q6.below)))
              have C6 := hid (bt B19.out q6.below)
              clear hu2 q6
              go_wp2_with fail
              refine hn6.out.mono ?_
              rintro e y7 ⟨rfl, b7⟩
              have C7 := hid (bt C6.out b7)
              clear hn6 b7 C6
              go_wp2_with fail
              refine (sure_ok _ (hg.out.below C7.out)).mono ?_
              rintro e y8 ⟨rfl, b8⟩
              have C8 := hid (bt C7.out b8)
              clear b8
              go_wp2_with fail
              go_ret
              exact ⟨rfl, C8.out⟩
        · have t4 : decide (m ≤ 1048576) = false := decide_eq_false h4
          have t1 : decide (1 ≤ n) = true := decide_eq_true h1
          have t2 : decide (n ≤ 4194304) = true := decide_eq_true h2
          have t3 : decide (1 ≤ m) = true := decide_eq_true h3
          have hbad : Hid (¬ (1 ≤ n ∧ n ≤ 4194304 ∧ 1 ≤ m ∧ m ≤ 1048576)) := hid (by omega)
          go_wp2_with fail
          refine (wnew_bad n m _ hbad.out).mono ?_
          rintro e y ⟨rfl, rfl⟩
          go_wp2_with fail
          refine (num_err 1 _ (hg.out.below B19.out)).mono ?_
          rintro e w20 ⟨rfl, b20⟩
          have B20 := hid (bt B19.out b20)
          clear b20 B19
          go_wp2_with fail
          refine (sure_ok _ (hg.out.below B20.out)).mono ?_
          rintro e w21 ⟨rfl, b21⟩
          have B21 := hid (bt B20.out b21)
          clear b21 B20
          go_wp2_with fail
          go_ret
          exact ⟨rfl, B21.out⟩
      · have t3 : decide (1 ≤ m) = false := decide_eq_false h3
        have t1 : decide (1 ≤ n) = true := decide_eq_true h1
        have t2 : decide (n ≤ 4194304) = true := decide_eq_true h2
        have hbad : Hid (¬ (1 ≤ n ∧ n ≤ 4194304 ∧ 1 ≤ m ∧ m ≤ 1048576)) := hid (by omega)
        go_wp2_with fail
        refine (wnew_bad n m _ hbad.out).mono ?_
        rintro e y ⟨rfl, rfl⟩
        go_wp2_with fail
        refine (num_err 1 _ (hg.out.below B19.out)).mono ?_
        rintro e w20 ⟨rfl, b20⟩
        have B20 := hid (bt B19.out b20)
        clear b20 B19
        go_wp2_with fail
        refine (sure_ok _ (hg.out.below B20.out)).mono ?_
        rintro e w21 ⟨rfl, b21⟩
        have B21 := hid (bt B20.out b21)
        clear b21 B20
        go_wp2_with fail
        go_ret
        exact ⟨rfl, B21.out⟩
    · have t2 : decide (n ≤ 4194304) = false := decide_eq_false h2
      have t1 : decide (1 ≤ n) = true := decide_eq_true h1
      have hbad : Hid (¬ (1 ≤ n ∧ n ≤ 4194304 ∧ 1 ≤ m ∧ m ≤ 1048576)) := hid (by omega)
      go_wp2_with fail
      refine (wnew_bad n m _ hbad.out).mono ?_
      rintro e y ⟨rfl, rfl⟩
      go_wp2_with fail
      refine (num_err 1 _ (hg.out.below B19.out)).mono ?_
      rintro e w20 ⟨rfl, b20⟩
      have B20 := hid (bt B19.out b20)
      clear b20 B19
      go_wp2_with fail
      refine (sure_ok _ (hg.out.below B20.out)).mono ?_
      rintro e w21 ⟨rfl, b21⟩
      have B21 := hid (bt B20.out b21)
      clear b21 B20
      go_wp2_with fail
      go_ret
      exact ⟨rfl, B21.out⟩
  · have t1 : decide (1 ≤ n) = false := decide_eq_false h1
    have hbad : Hid (¬ (1 ≤ n ∧ n ≤ 4194304 ∧ 1 ≤ m ∧ m ≤ 1048576)) := hid (by omega)
    go_wp2_with fail
    refine (wnew_bad n m _ hbad.out).mono ?_
    rintro e y ⟨rfl, rfl⟩
    go_wp2_with fail
    refine (num_err 1 _ (hg.out.below B19.out)).mono ?_
    rintro e w20 ⟨rfl, b20⟩
    have B20 := hid (bt B19.out b20)
    clear b20 B19
    go_wp2_with fail
    refine (sure_ok _ (hg.out.below B20.out)).mono ?_
    rintro e w21 ⟨rfl, b21⟩
    have B21 := hid (bt B20.out b21)
    clear b21 B20
    go_wp2_with fail
    go_ret
    exact ⟨rfl, B21.out⟩
end Go.Proofs.YtdmkbcbgjdmgdaaGreatDoor
