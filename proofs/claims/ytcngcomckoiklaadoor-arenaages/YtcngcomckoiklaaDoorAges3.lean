/- 'ArenaAges', walked. -/
import Derived.Test.YtcngcomckoiklaaDoorState3
namespace Go.Proofs.YtcngcomckoiklaaDoor
open Go.RowKit

/-- t places given once each. -/
def onesP (t : Nat) : List (Int × Int) := List.replicate t (1, 1)

theorem ones_low : ∀ t, lowP (onesP t) = t
  | 0 => rfl
  | t + 1 => by show (if (1 : Int) = 0 then 0 else lowP (onesP t) + 1) = t + 1; rw [ones_low t]; rfl

theorem ones_next (t : Nat) : putP (onesP t) t (1, 1) = onesP (t + 1) := by
  unfold putP onesP
  rw [if_pos (by simp), List.replicate_succ']

/-- And one behind them, given and taken back i times. -/
def aged (t : Nat) (i : Nat) : List (Int × Int) := if i = 0 then onesP t else onesP t ++ [((i : Int), 0)]

theorem low_app (t : Nat) (p : Int × Int) : lowP (onesP t ++ [p]) = if p.2 = 0 then t else t + 1 := by
  induction t with
  | zero => simp [onesP, lowP]
  | succ t ih =>
    show (if (1 : Int) = 0 then 0 else lowP (onesP t ++ [p]) + 1) = _
    rw [if_neg (by decide), ih]
    split <;> rfl

theorem aged_low (t i : Nat) : lowP (aged t i) = t := by
  unfold aged
  split
  · exact ones_low t
  · rw [low_app]; rfl

theorem ones_at (t : Nat) : atP (onesP t) t = (0, 0) := atP_none (by simp [onesP])

theorem aged_at (t i : Nat) : (atP (aged t i) t).1 + 1 = ((i + 1 : Nat) : Int) := by
  unfold aged
  split
  · rename_i h; subst h; rw [ones_at]; rfl
  · rw [atP_some (p := ((i : Int), 0)) (by simp [onesP])]; simp

theorem aged_give (t i : Nat) : putP (aged t i) t (((i + 1 : Nat) : Int), 1) = onesP t ++ [(((i + 1 : Nat) : Int), 1)] := by
  unfold aged putP
  split
  · rw [if_pos (by simp [onesP])]
  · rw [if_neg (by simp [onesP]), List.set_append_right _ _ (by simp [onesP])]
    simp [onesP]

theorem given_at (t : Nat) (a : Int) : atP (onesP t ++ [(a, 1)]) t = (a, 1) := atP_some (by simp [onesP])

theorem given_back (t i : Nat) (hi : i < 100) : putP (onesP t ++ [(((i + 1 : Nat) : Int), 1)]) t (((i + 1 : Nat) : Int), if ((i + 1 : Nat) : Int) = 4294967295 then 2 else 0) = aged t (i + 1) := by
  rw [if_neg (by omega)]
  unfold aged putP
  rw [if_neg (by simp [onesP]), if_neg (by omega), List.set_append_right _ _ (by simp [onesP])]
  simp [onesP]

theorem aged_live (t i : Nat) : liveN (aged t i) = t := by
  have h1 : liveN (onesP t) = t := by unfold liveN onesP; rw [List.countP_replicate]; rfl
  unfold aged
  split
  · exact h1
  · unfold liveN at *
    rw [List.countP_append, h1]
    rfl

set_option maxRecDepth 100000 in
set_option maxHeartbeats 4000000 in
theorem ages_law (n times : Int) (w : World) (hE : Tab w) :
    Calls Tryd.prog 8 #[.int .i64 n, .int .i64 times] w fun e w' => e = .returned (.bool true) ∧ Below w.heap.size w w' := by
  obtain ⟨K, hK, hK1, hK2⟩ := mod_up n 10 (by decide) (by decide)
  obtain ⟨T, hT, hT1, hT2⟩ := mod_up times 20 (by decide) (by decide)
  obtain ⟨m, rfl⟩ : ∃ m, K = m + 1 := ⟨K - 1, by omega⟩
  go_enter Tryd.func8, Tryd.ntmps8
  go_wp2_with fail
  rw [hK]
  refine (SA.new (m + 1) w hE (by omega) (by omega)).mono ?_
  rintro e w1 ⟨ab, rfl, s1⟩
  have s1h : Hid (SA w.heap.size w1.heap.size ab (m + 1) w (onesP 0) w1) := s1
  have hm : m ≤ 9 := by omega
  clear s1 hE hK
  go_wp2_with fail
  go_loopw [8] (fun u wr => ∃ t : Nat, t ≤ m ∧ u = .int .i64 (t : Int) ∧ Hid (SA w.heap.size w1.heap.size ab (m + 1) w (onesP t) wr))
    (fun u _ => m - (intOf u).toNat)
  case atStart => exact ⟨0, by omega, by go_num, s1h⟩
  case round =>
    obtain ⟨t, ht, rfl, hs⟩ := hrel
    clear s1h
    rcases Nat.lt_or_ge t m with hlt | hge
    · have hw32 : (t : Int) % 4294967296 = (t : Int) := by omega
      go_wp2_with fail
      refine (hs.out.add (A := 1) (ps' := onesP (t + 1)) t (ones_low t) (by omega) (by rw [ones_at]; rfl) (ones_next t)).mono ?_
      rintro e w2 ⟨rfl, s2, k2⟩
      have s2h := hid (s2.alloc (.cells #[.int .u32 1, .int .u32 (t : Int)] 53))
      clear s2 k2 hs
      go_wp2_with fail
      go_roundw
      case rel => exact ⟨t + 1, by omega, by go_num, s2h⟩
      case measure => simp [intOf]; omega
    · obtain rfl : t = m := by omega
      have hs2 : Hid (SA w.heap.size w1.heap.size ab (t + 1) w (aged t 0) wr) := hs.out
      clear hs hge ht
      go_wp2_with fail
      go_loopw [11] (fun u wr => ∃ i : Nat, i ≤ T ∧ u = .int .i64 (i : Int) ∧ Hid (SA w.heap.size w1.heap.size ab (t + 1) w (aged t i) wr))
        (fun u _ => T - (intOf u).toNat)
      case atStart => exact ⟨0, by omega, by go_num, hs2⟩
      case round =>
        obtain ⟨i, hi, rfl, hs⟩ := hrel
        clear hs2
        rcases Nat.lt_or_ge i T with hlt | hge
        · have ht1 : decide ((i : Int) < wrap64 (1 + wrap64 ((IntKind.u64.wrap times).tmod 20))) = true := by rw [hT]; exact decide_eq_true (by omega)
          go_wp2_with fail
          refine (hs.out.add (A := ((i + 1 : Nat) : Int)) (ps' := onesP t ++ [(((i + 1 : Nat) : Int), 1)]) t (aged_low t i) (by omega) (aged_at t i) (aged_give t i)).mono ?_
          rintro e w2 ⟨rfl, s2, k2⟩
          have s2h := hid (s2.alloc (.cells #[.int .u32 ((i + 1 : Nat) : Int), .int .u32 (t : Int)] 53))
          have hl2 := hid s2.hiLe.1
          clear s2 k2 hs
          go_wp2_with fail
          refine (s2h.out.full true (decide_eq_true (by rw [low_app]; rfl))).mono ?_
          rintro e w3 ⟨rfl, b3⟩
          have s3 := hid (s2h.out.more b3)
          have hcb : w3.heap[w2.heap.size]? = some (.cells #[.int .u32 ((i + 1 : Nat) : Int), .int .u32 (t : Int)] 53 (0, 0)) := (b3.block _ (by simp)).trans (heap_alloc_new w2 _)
          obtain ⟨x0, x1⟩ := blk2 hcb
          clear s2h b3 hcb
          go_wp2_with fail
          refine (s3.out.drop (A := ((i + 1 : Nat) : Int)) (ps' := aged t (i + 1)) t (given_at t _) (given_back t i (by omega))).mono ?_
          rintro e w4 ⟨rfl, s4, _⟩
          have s4h := hid s4
          clear s3 s4 x0 x1
          go_wp2_with fail
          refine (s4h.out.full false (decide_eq_false (by rw [aged_low]; omega))).mono ?_
          rintro e w5 ⟨rfl, b5⟩
          have s5 := hid (s4h.out.more b5)
          clear s4h b5
          go_wp2_with fail
          go_roundw
          case rel => exact ⟨i + 1, by omega, by go_num, s5⟩
          case measure => simp [intOf]; omega
        · obtain rfl : i = T := by omega
          have ht1 : decide ((i : Int) < wrap64 (1 + wrap64 ((IntKind.u64.wrap times).tmod 20))) = false := by rw [hT]; exact decide_eq_false (by omega)
          clear hT
          go_wp2_with fail
          have hlen := hs.out.len
          rw [aged_live] at hlen
          refine hlen.mono ?_
          rintro e w5 ⟨rfl, b5⟩
          have s5 := hid (hs.out.more b5)
          clear hs b5 hlen
          go_wp2_with fail
          refine (sure_ok _ s5.out.env).mono ?_
          rintro e w6 ⟨rfl, b6⟩
          have s6 := hid (s5.out.more b6)
          clear s5 b6
          go_wp2_with fail
          go_ret
          exact ⟨rfl, s6.out.below⟩

end Go.Proofs.YtcngcomckoiklaaDoor
