/- 'PermOf', walked. -/
import Derived.Test.YtjngdecpomogbaaDoorSure8
import Derived.Test.YtjngdecpomogbaaDoorRefOf8
import Derived.Test.YtjngdecpomogbaaDoorErrAs
namespace Go.Proofs.YtjngdecpomogbaaDoor
open Go.RowKit
set_option linter.unusedVariables false

/-- A list's length, at most 200. -/
def cut200 (c : List Int) : Nat := if c.length < 200 then c.length else 200
def sm (ls : List (List Int)) : Nat := (ls.map cut200).sum

theorem sm_next {ls : List (List Int)} {j : Nat} {c : List Int} (h : ls[j]? = some c) : sm (ls.take (j + 1)) = sm (ls.take j) + cut200 c := by
  unfold sm
  rw [ltake h, List.map_append, List.sum_append]
  simp

theorem cut_le (c : List Int) : cut200 c ≤ 200 := by unfold cut200; split <;> omega

theorem sm_le : ∀ (ls : List (List Int)), sm ls ≤ 200 * ls.length
  | [] => by simp [sm]
  | c :: ls => by
    have h1 := sm_le ls
    have h2 := cut_le c
    have : sm (c :: ls) = cut200 c + sm ls := by simp [sm]
    rw [this, List.length_cons]
    omega

theorem sm_few : ∀ (ls : List (List Int)), sm ls ≤ 150 → ls.flatten.length ≤ 150 ∧ ∀ c, c ∈ ls → c.length ≤ 150
  | [], _ => ⟨by simp, fun c h => by simp at h⟩
  | c :: ls, h => by
    have e : sm (c :: ls) = cut200 c + sm ls := by simp [sm]
    rw [e] at h
    have hc : cut200 c = c.length := by
      unfold cut200 at h ⊢
      split
      · rfl
      · rw [if_neg (by assumption)] at h; omega
    rw [hc] at h
    have hx : ls.flatten.length + c.length ≤ 150 ∧ ∀ c', c' ∈ ls → c'.length ≤ 150 := by
      have h2 := sm_few ls (by omega)
      refine ⟨?_, h2.2⟩
      have h3 : sm ls = ls.flatten.length := by
        clear h2 e hc
        have : ∀ (l : List (List Int)), sm l ≤ 150 → sm l = l.flatten.length := by
          intro l
          induction l with
          | nil => simp [sm]
          | cons a l ih =>
            intro hl
            have e : sm (a :: l) = cut200 a + sm l := by simp [sm]
            rw [e] at hl ⊢
            have ha : cut200 a = a.length := by
              unfold cut200 at hl ⊢
              split
              · rfl
              · rw [if_neg (by assumption)] at hl; omega
            rw [ha, ih (by omega)]
            simp
        exact this ls (by omega)
      omega
    refine ⟨by rw [List.flatten_cons, List.length_append]; omega, fun c' hc' => ?_⟩
    rcases List.mem_cons.1 hc' with rfl | h1
    · omega
    · exact hx.2 c' h1

set_option maxRecDepth 100000 in
set_option maxHeartbeats 8000000 in
theorem of_law (n : Int) (v : Value) (ls : List (List Int)) (w : World) (hg : Handle w) (hv : RV w v ls) :
    Calls Tryd.prog 5 #[.int .i64 n, v] w fun e w' => e = .returned (.bool true) ∧ Below w.heap.size w w' := by
  have hv' := hid hv
  obtain ⟨av, m, cv, rfl, sv⟩ := hv
  have lv := hid sv.len
  have big := sv.big
  replace sv := hid sv
  replace hg := hid hg
  have hs := hid (sure_ok w)
  go_enter Tryd.func5, Tryd.ntmps5
  go_wp2_with fail
  go_loopw [5, 6] (fun t u wr => ∃ j : Nat, j ≤ m ∧ j ≤ 200 ∧ u = .int .i64 (j : Int) ∧ t = .int .i64 (sm (ls.take j) : Int) ∧ w = wr) (fun _ u _ => 200 - (intOf u).toNat)
  case atStart => exact ⟨0, by omega, by omega, by go_num, by simp [sm], rfl⟩
  case round =>
    obtain ⟨j, hj, hj2, rfl, rfl, rfl⟩ := hrel
    have hsl : sm (ls.take j) ≤ 40000 := by
      have h1 := sm_le (ls.take j)
      have h2 : (ls.take j).length ≤ j := by simp; omega
      omega
    by_cases hgo : j < m ∧ j < 200
    · obtain ⟨hjm, hj200⟩ := hgo
      obtain ⟨c, hcj⟩ : ∃ c, ls[j]? = some c := ⟨_, List.getElem?_eq_getElem (by rw [lv.out]; exact hjm)⟩
      obtain ⟨b1, o1, u1, rfl, q1, I1⟩ := sv.out.cell j c hcj
      obtain ⟨ac, d, cc, rfl, sc⟩ := I1
      have hd := sc.len
      have hbd := sc.big
      have hnx := hid (sm_next hcj)
      obtain ⟨S, hS⟩ : ∃ S, sm (ls.take j) = S := ⟨_, rfl⟩
      rw [hS] at hnx hsl ⊢
      have i1 : (0 : Int) ≤ (j : Int) := by omega
      have i2 : (j : Int) < (m : Int) := by omega
      have i3 : (j : Int) < 200 := by omega
      by_cases e : d < 200
      · have hc2 : Hid (sm (ls.take (j + 1)) = S + d) := by rw [hnx.out]; unfold cut200; rw [hd, if_pos e]; exact hid rfl
        have e1 : (d : Int) < 200 := by omega
        have e2 : ¬ ((200 : Int) < (d : Int)) := by omega
        have e3 : (d : Int) ≤ 200 := by omega
        clear hcj sc hd hnx hS
        go_wp2_with fail
        go_roundw
        case rel => exact ⟨j + 1, by omega, by omega, by go_num, by rw [hc2.out]; go_num, trivial⟩
        case measure => simp [intOf]; omega
      · have hc2 : Hid (sm (ls.take (j + 1)) = S + 200) := by rw [hnx.out]; unfold cut200; rw [hd, if_neg e]; exact hid rfl
        have e1 : ¬ ((d : Int) < 200) := by omega
        have e3 : (200 : Int) ≤ (d : Int) := by omega
        clear hcj sc hd hnx hS
        by_cases e4 : d = 200
        · subst e4
          go_wp2_with fail
          go_roundw
          case rel => exact ⟨j + 1, by omega, by omega, by go_num, by rw [hc2.out]; go_num, trivial⟩
          case measure => simp [intOf]; omega
        · have e5 : (200 : Int) < (d : Int) := by omega
          have e6 : ¬ ((d : Int) ≤ 200) := by omega
          go_wp2_with fail
          go_roundw
          case rel => exact ⟨j + 1, by omega, by omega, by go_num, by rw [hc2.out]; go_num, trivial⟩
          case measure => simp [intOf]; omega
    · obtain ⟨S, hS⟩ : ∃ S, sm (ls.take j) = S := ⟨_, rfl⟩
      rw [hS] at hsl ⊢
      have ways : ((m ≤ j ∨ (j < m ∧ 200 ≤ j)) ∧ ((200 < n ∧ n ≤ 4194304) ∨ ((n ≤ 200 ∨ (200 < n ∧ 4194304 < n)) ∧ (150 < S ∨ (S ≤ 150 ∧ 150 < m))))) ∨ (m ≤ j ∧ (n < 0 ∨ (0 ≤ n ∧ n ≤ 200) ∨ (200 < n ∧ 4194304 < n)) ∧ S ≤ 150 ∧ m ≤ 150) := by omega
      rcases ways with ⟨hstop, ways⟩ | ⟨hstop, hnn, hS150, hm150⟩
      · clear hS
        rcases hstop with hstop | ⟨hs1, hs2⟩ <;> rcases ways with ⟨a1, a2⟩ | ⟨(a1 | ⟨a1, a2⟩), (b1 | ⟨b1, b2⟩)⟩
        all_goals
          (try have g1 : ¬ ((200 : Int) < n) := by omega)
          (try have g2 : ¬ (n ≤ (4194304 : Int)) := by omega)
          (try have g3 : (150 : Int) < (S : Int) := by omega)
          (try have g4 : ¬ ((150 : Int) < (S : Int)) := by omega)
          (try have g5 : (150 : Int) < (m : Int) := by omega)
          (try have g6 : ¬ ((j : Int) < (m : Int)) := by omega)
          (try have g7 : ((j : Int) < (m : Int)) := by omega)
          (try have g8 : ¬ ((j : Int) < (200 : Int)) := by omega)
          go_wp2_with fail
          refine hs.out.mono ?_
          rintro e w1 ⟨rfl, b1'⟩
          replace b1' := hid b1'
          go_wp2_with fail
          go_ret
          exact ⟨rfl, b1'.out⟩
      · obtain rfl : j = m := by omega
        have hall : ls.take j = ls := List.take_of_length_le (by rw [lv.out]; exact Nat.le_refl _)
        rw [hall] at hS
        obtain ⟨hF, hcc⟩ := sm_few ls (by omega)
        have g4 : ¬ ((150 : Int) < (S : Int)) := by omega
        have g5 : ¬ ((150 : Int) < (j : Int)) := by omega
        have g6 : ¬ ((j : Int) < (j : Int)) := by omega
        have hll := lv.out
        clear hS hall hgo hs
        rcases hnn with hn | hn | hn
        · have c1 := hid (of_long (.slice av j cv) n w (.inl hn))
          have g1 : ¬ ((200 : Int) < n) := by omega
          clear hF hcc hll
          go_wp2_with fail
          refine c1.out.mono ?_
          rintro e w1 ⟨rfl, rfl⟩
          clear c1
          go_wp2_with fail
          refine (num_err 2 w hg.out).mono ?_
          rintro e w2 ⟨rfl, b2⟩
          replace b2 := hid b2
          go_wp2_with fail
          refine (sure_ok w2).mono ?_
          rintro e wa ⟨rfl, ba⟩
          replace ba : Hid (Below w.heap.size w wa) := b2.out.trans (ba.mono b2.out.size)
          clear b2
          go_wp2_with fail
          go_ret
          exact ⟨rfl, ba.out⟩
        · obtain ⟨hn0, hn2⟩ := hn
          obtain ⟨k, rfl⟩ : ∃ k : Nat, n = (k : Int) := ⟨n.toNat, by omega⟩
          have g1 : ¬ ((200 : Int) < (k : Int)) := by omega
          have g2 : ¬ ((k : Int) < 0) := by omega
          have g3 : ¬ ((4194304 : Int) < (k : Int)) := by omega
          by_cases hdj : Dj k ls
          · obtain ⟨ms, rfl, hcs⟩ := hdj.nat
            have c1 := hid (of_yes _ k ms w hv'.out hcs (by omega) (by simp [cls] at hll; omega) (fun c hc => by have := hcc (cl c) (List.mem_map.2 ⟨c, hc, rfl⟩); simp at this; omega))
            have c2 : Hid (∀ g y, Nx k ms g → Below w.heap.size w y → _) := hid (fun g y hx hy => rof_ok _ k (cls ms) g y (hv'.out.below hy) (fun ms' e _ => by
              have he : ms' = ms := by
                have h1 : cls ms = cls ms' := e
                unfold cls at h1
                have hinj : ∀ a b : List Nat, cl a = cl b → a = b := fun a b h => by
                  have := congrArg (List.map Int.toNat) h
                  simpa [cl, Function.comp_def] using this
                have h2 : ∀ (a b : List (List Nat)), a.map cl = b.map cl → a = b := by
                  intro a
                  induction a with
                  | nil => intro b h; cases b with
                    | nil => rfl
                    | cons _ _ => simp at h
                  | cons p a ih => intro b h; cases b with
                    | nil => simp at h
                    | cons q b =>
                      simp only [List.map_cons, List.cons.injEq] at h
                      rw [hinj p q h.1, ih b h.2]
                exact (h2 ms ms' h1).symm
              rw [he]; exact hx) (by omega) (by omega) (by omega) (fun c hc => by have := hcc c hc; omega))
            replace hdj := hid hdj
            clear hF hcc hll hcs
            go_wp2_with fail
            refine c1.out.mono ?_
            rintro e w1 ⟨u, g, rfl, hnx, hu, b1⟩
            replace hu := hid hu
            replace b1 := hid b1
            have c3 := hid (c2.out g w1 hnx b1.out)
            clear c1 c2 hnx
            go_wp2_with fail
            refine c3.out.mono ?_
            rintro e w2 ⟨q, r, rfl, hr, hq, b2⟩
            obtain rfl : r = true := hr.2 hdj.out
            replace hq := hid (hq rfl)
            replace hu := hid (hu.out.more b2)
            replace b2 : Hid (Below w.heap.size w w2) := b1.out.trans (b2.mono b1.out.size)
            clear c3 hr b1
            go_wp2_with fail
            refine (ints_ok u q _ w2 hu.out.iv hq.out.iv).mono ?_
            rintro e w3 ⟨rfl, m3, rfl⟩
            have b3 : Hid (Below w.heap.size w (w2.drewN m3)) := belowN b2.out m3
            clear b2 hu hq
            generalize w2.drewN m3 = w3 at *
            go_wp2_with fail
            refine (sure_ok w3).mono ?_
            rintro e wa ⟨rfl, ba⟩
            replace ba : Hid (Below w.heap.size w wa) := b3.out.trans (ba.mono b3.out.size)
            clear b3
            go_wp2_with fail
            go_ret
            exact ⟨rfl, ba.out⟩
          · have c1 := hid (of_no _ k ls w hv'.out hdj (by omega) (by omega) (fun c hc => by have := hcc c hc; omega))
            have c2 : Hid (∀ y, Below w.heap.size w y → _) := hid (fun y hy => rof_ok _ k ls (fun i => i) y (hv'.out.below hy) (fun ms' e hcs => absurd (by rw [e]; exact Dj.cs.2 hcs) hdj) (by omega) (by omega) (by omega) (fun c hc => by have := hcc c hc; omega))
            replace hdj := hid hdj
            clear hF hcc hll
            go_wp2_with fail
            refine c1.out.mono ?_
            rintro e w1 ⟨rfl, b1⟩
            replace b1 := hid b1
            clear c1
            go_wp2_with fail
            refine (c2.out w1 b1.out).mono ?_
            rintro e w2 ⟨q, r, rfl, hr, hq, b2⟩
            obtain rfl : r = false := by cases r with
              | true => exact absurd (hr.1 rfl) hdj.out
              | false => rfl
            replace b2 : Hid (Below w.heap.size w w2) := b1.out.trans (b2.mono b1.out.size)
            clear c2 hr hq b1
            go_wp2_with fail
            refine (num_err 3 w2 (hg.out.below b2.out)).mono ?_
            rintro e w3 ⟨rfl, b3⟩
            replace b3 : Hid (Below w.heap.size w w3) := b2.out.trans (b3.mono b2.out.size)
            clear b2
            go_wp2_with fail
            refine (sure_ok w3).mono ?_
            rintro e wa ⟨rfl, ba⟩
            replace ba : Hid (Below w.heap.size w wa) := b3.out.trans (ba.mono b3.out.size)
            clear b3
            go_wp2_with fail
            go_ret
            exact ⟨rfl, ba.out⟩
        · obtain ⟨hn1, hn2⟩ := hn
          have c1 := hid (of_long (.slice av j cv) n w (.inr ⟨by omega, hn2⟩))
          have g1 : ¬ (n ≤ (4194304 : Int)) := by omega
          have g2 : ¬ (n < 0) := by omega
          clear hF hcc hll
          go_wp2_with fail
          refine c1.out.mono ?_
          rintro e w1 ⟨rfl, rfl⟩
          clear c1
          go_wp2_with fail
          refine (num_err 2 w hg.out).mono ?_
          rintro e w2 ⟨rfl, b2⟩
          replace b2 := hid b2
          go_wp2_with fail
          refine (sure_ok w2).mono ?_
          rintro e wa ⟨rfl, ba⟩
          replace ba : Hid (Below w.heap.size w wa) := b2.out.trans (ba.mono b2.out.size)
          clear b2
          go_wp2_with fail
          go_ret
          exact ⟨rfl, ba.out⟩

end Go.Proofs.YtjngdecpomogbaaDoor
