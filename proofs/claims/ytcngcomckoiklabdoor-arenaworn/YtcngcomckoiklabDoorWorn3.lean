/- 'ArenaWorn', walked. -/
import Derived.Test.YtcngcomckoiklabDoorBad3
namespace Go.Proofs.YtcngcomckoiklabDoor
open Go.RowKit

/-- Of m places of the greatest age the first i are worn. -/
def old (i m : Nat) : List (Int × Int) := List.replicate i (4294967295, 2) ++ List.replicate (m - i) (4294967295, 1)

theorem old_length (i m : Nat) (h : i ≤ m) : (old i m).length = m := by simp [old]; omega

theorem old_get (i m j : Nat) (h : i ≤ m) (hj : j < m) : (old i m)[j]? = some (4294967295, if j < i then 2 else 1) := by
  unfold old
  rcases Nat.lt_or_ge j i with h1 | h1
  · rw [List.getElem?_append_left (by simpa using h1), List.getElem?_replicate, if_pos h1, if_pos h1]
  · rw [List.getElem?_append_right (by simpa using h1), List.length_replicate, List.getElem?_replicate, if_pos (by omega), if_neg (by omega)]

theorem old_put (i m : Nat) (h : i < m) : putP (old i m) i (4294967295, if (4294967295 : Int) = 4294967295 then 2 else 0) = old (i + 1) m := by
  apply List.ext_getElem?
  intro j
  have hl := old_length i m (by omega)
  rw [putP_get (by omega)]
  rcases Nat.lt_or_ge j m with h1 | h1
  · rw [old_get (i + 1) m j (by omega) h1, old_get i m j (by omega) h1]
    by_cases hj : j = i
    · subst hj; simp
    · rw [if_neg hj]
      by_cases h2 : j < i
      · rw [if_pos h2, if_pos (by omega)]
      · rw [if_neg h2, if_neg (by omega)]
  · rw [if_neg (by omega), List.getElem?_eq_none (by omega), List.getElem?_eq_none (by rw [old_length (i + 1) m (by omega)]; exact h1)]

theorem low_worn : ∀ m, lowP (List.replicate m ((4294967295 : Int), (2 : Int))) = m
  | 0 => rfl
  | m + 1 => by show (if (2 : Int) = 0 then 0 else lowP (List.replicate m _) + 1) = m + 1; rw [low_worn m]; rfl

theorem old_all (m : Nat) : old m m = List.replicate m (4294967295, 2) := by simp [old]
theorem old_none (m : Nat) : old 0 m = List.replicate m (4294967295, 1) := by simp [old]

theorem old_fair (m n : Nat) (h : m ≤ n) : Fair n (old 0 m) := by
  have hl := old_length 0 m (by omega)
  refine ⟨by omega, fun i p hp => ?_, fun i p hp _ => ?_⟩
  all_goals
    have hi := (List.getElem?_eq_some_iff.1 hp).1
    rw [old_get 0 m i (by omega) (by omega), if_neg (by omega)] at hp
    cases hp
    first | decide | simp

theorem worn_live (m : Nat) : liveN (List.replicate m ((4294967295 : Int), (2 : Int))) = 0 := by unfold liveN; rw [List.countP_replicate]; rfl

theorem worn_next (m : Nat) : putP (List.replicate m ((4294967295 : Int), (2 : Int))) m (1, 1) = List.replicate m (4294967295, 2) ++ [(1, 1)] := by
  unfold putP; rw [if_pos (by simp)]

theorem worn_live1 (m : Nat) : liveN (List.replicate m ((4294967295 : Int), (2 : Int)) ++ [(1, 1)]) = 1 := by
  have := worn_live m
  unfold liveN at *
  rw [List.countP_append, this]; rfl

theorem pcs_two_old (w : World) : ∀ j u, (pcs [((4294967295 : Int), (1 : Int))])[j]? = some u → (w.alloc (.cells #[.int .u32 4294967295, .int .i64 1] 27)).cell? ((⟨w.heap.size, 0, none⟩ : Addr).add j) = some u := by
  intro j u hu
  rw [add0]
  have hn := heap_alloc_new w (.cells #[.int .u32 4294967295, .int .i64 1] 27)
  unfold World.cell?
  rw [hn]
  simpa [pcs] using hu

theorem old_next (i : Nat) : pcs (old 0 i) ++ pcs [(4294967295, 1)] = pcs (old 0 (i + 1)) := by
  rw [← pcs_append, old_none, old_none, List.replicate_succ']

set_option maxRecDepth 100000 in
set_option maxHeartbeats 4000000 in
theorem worn_law (n many : Int) (w : World) (hE : Env w) :
    Calls Tryd.prog 3 #[.int .i64 n, .int .i64 many] w fun e w' => e = .returned (.bool true) ∧ Below w.heap.size w w' := by
  obtain ⟨i0, hif, hz0, hz1, hz2⟩ := info_parts infoPlace
  obtain ⟨K, hK, hK1, hK2⟩ := mod_up n 8 (by decide) (by decide)
  obtain ⟨M, hM, hM1, hM2'⟩ := mod_up many (K : Int) (by omega) (by omega)
  have hM2 : M ≤ K := by omega
  clear hM2'
  have hEh := hid hE
  clear hE
  go_enter Tryd.func3, Tryd.ntmps3
  go_wp2_with fail
  try rw [hK]
  rw [hM]
  have hK8 : K ≤ 8 := by omega
  clear hK hM
  go_loopw [7, 8] (fun v u wr => ∃ j : Nat, j ≤ M ∧ u = .int .i64 (j : Int) ∧ wr.ownsRow w.heap.size 27 2 v j (pcs (old 0 j)) ∧ Below w.heap.size w wr)
    (fun _ u _ => M - (intOf u).toNat)
  case atStart => exact ⟨0, by omega, by go_num, World.ownsRow_nil _ _ _ _, Below.refl _ _⟩
  case round =>
    obtain ⟨j, hj, rfl, hown, hbr⟩ := hrel
    have hsz := hbr.size
    rcases Nat.lt_or_ge j M with hlt | hge
    · go_wp2_with (at_builtin; refine wpList_append_own _ rfl (.tmp 31) (.tmp 33) 23 rfl w.heap.size 27 i0 _ 2 16 Tryd.underlying23 hif hz0 hz1 hz2 rfl (by decide) _ _ _ rfl (hown.alloc _) ⟨wr.heap.size, 0, none⟩ 1 1 (pcs [(4294967295, 1)]) rfl rfl (pcs_two_old wr) (pcs_one _) (by unfold maxLen; omega) (by omega) (by simp; omega) ?_; intro v3 w3 hown3 hgrow3 _; refine Hid.out ?_)
      have hb3 := (hbr.alloc hbr.size (.cells #[.int .u32 4294967295, .int .i64 1] 27)).grown hgrow3 (by simp; omega) (fun k hk => (hown.lt k hk).1)
      rw [old_next] at hown3
      clear hown hgrow3
      refine hid ?_
      go_wp2_with fail
      go_roundw
      case rel => exact ⟨j + 1, by omega, by go_num, hown3, hb3⟩
      case measure => simp [intOf]; omega
    · obtain rfl : j = M := by omega
      obtain ⟨wm, hwm⟩ : ∃ wm, wm = wr := ⟨wr, rfl⟩
      subst hwm
      have hlen := old_length 0 j (by omega)
      have hr := hid hown.2
      have hown' : wm.ownsRow w.heap.size 27 2 u7 (old 0 j).length (pcs (old 0 j)) := by rw [hlen]; exact hown
      obtain ⟨pa, pc, hv, _, hp⟩ := Prow.ofRow hown' (old_fair j K hM2).num
      subst hv
      have h0 : pa = none → pc = 0 := by
        intro e; subst e
        rcases hr.out with ⟨e, _⟩ | ⟨g, c, cur, e, _⟩
        · injection e
        · injection e with e1; cases e1
      have hld := SA.load K pa (old 0 j) pc wm (hEh.out.2.below hbr) hp h0 hK1 (by omega) (old_fair j K hM2)
      rw [hlen] at hld
      have hbrh := hid hbr
      rw [hlen]
      clear hown hown' hr hp h0 hge hj hbr
      go_wp2_with fail
      refine hld.mono ?_
      rintro e w1 ⟨ab, rfl, s1⟩
      have s1h := hid s1
      clear hld s1
      go_wp2_with fail
      go_loopw [11] (fun u wr => ∃ i : Nat, i ≤ j ∧ u = .int .i64 (i : Int) ∧ Hid (SA wm.heap.size w1.heap.size ab K wm (old i j) wr))
        (fun u _ => j - (intOf u).toNat)
      case atStart => exact ⟨0, by omega, by go_num, s1h⟩
      case round =>
        obtain ⟨i, hi, rfl, hs⟩ := hrel
        clear s1h
        rcases Nat.lt_or_ge i j with hlt | hge
        · have h32 : (i : Int) % 4294967296 = (i : Int) := by omega
          go_wp2_with fail
          refine (hs.out.drop (A := 4294967295) (ps' := old (i + 1) j) i (atP_some (by rw [old_get i j i (by omega) hlt, if_neg (by omega)])) (old_put i j hlt)).mono ?_
          rintro e w2 ⟨rfl, s2, _⟩
          have s2h := hid s2
          clear s2 hs
          go_wp2_with fail
          go_roundw
          case rel => exact ⟨i + 1, by omega, by go_num, s2h⟩
          case measure => simp [intOf]; omega
        · obtain rfl : i = j := by omega
          have hs2 : Hid (SA wm.heap.size w1.heap.size ab K wm (List.replicate i (4294967295, 2)) wr) := by have := hs.out; rw [old_all] at this; exact this
          have hgh : Hid (Handle wm) := (hEh.out.below hbrh.out).1
          clear hs hge hi
          rcases Nat.lt_or_ge i K with hlt | hge
          · have t1 : ((i : Int) == (K : Int)) = false := by simp; omega
            have h32 : (i : Int) % 4294967296 = (i : Int) := by omega
            go_wp2_with fail
            refine (hs2.out.add (A := 1) (ps' := List.replicate i (4294967295, 2) ++ [(1, 1)]) i (low_worn i) hlt (by rw [atP_none (by simp)]; rfl) (worn_next i)).mono ?_
            rintro e w2 ⟨rfl, s2, _⟩
            have s2h := hid (s2.alloc (.cells #[.int .u32 1, .int .u32 (i : Int)] 35))
            clear s2 hs2
            go_wp2_with fail
            have hln := s2h.out.len
            rw [worn_live1] at hln
            refine hln.mono ?_
            rintro e w3 ⟨rfl, b3⟩
            have s3 := hid (s2h.out.more b3)
            clear s2h b3 hln
            go_wp2_with fail
            refine (sure_ok _ s3.out.env).mono ?_
            rintro e w4 ⟨rfl, b4⟩
            have s4 := hid (s3.out.more b4)
            clear s3 b4
            go_wp2_with fail
            go_ret
            exact ⟨rfl, hbrh.out.trans (s4.out.below.mono hsz)⟩
          · obtain rfl : i = K := by omega
            go_wp2_with fail
            refine (hs2.out.addFull (by rw [low_worn]; exact Nat.le_refl _)).mono ?_
            rintro e w2 ⟨rfl, b2⟩
            have s2h := hid ((hs2.out.more b2).alloc (.cells #[.int .u32 0, .int .u32 0] 35))
            clear b2 hs2
            go_wp2_with fail
            refine (num_err 16 _ (s2h.out.handleIs hgh.out)).mono ?_
            rintro e w3 ⟨rfl, b3⟩
            have s3 := hid (s2h.out.more b3)
            clear s2h b3
            go_wp2_with fail
            refine (s3.out.full true (decide_eq_true (low_worn i))).mono ?_
            rintro e w4 ⟨rfl, b4⟩
            have s4 := hid (s3.out.more b4)
            clear s3 b4
            go_wp2_with fail
            have hln := s4.out.len
            rw [worn_live] at hln
            refine hln.mono ?_
            rintro e w5 ⟨rfl, b5⟩
            have s5 := hid (s4.out.more b5)
            clear s4 b5 hln
            go_wp2_with fail
            refine (sure_ok _ s5.out.env).mono ?_
            rintro e w6 ⟨rfl, b6⟩
            have s6 := hid (s5.out.more b6)
            clear s5 b6
            go_wp2_with fail
            go_ret
            exact ⟨rfl, hbrh.out.trans (s6.out.below.mono hsz)⟩

end Go.Proofs.YtcngcomckoiklabDoor
