/- The law of reading a model's bytes, walked. -/
import Derived.Test.YtboafgimjadboaaGreatDoorBlaw
import Derived.Test.YtboafgimjadboaaGreatDoorRDecode17
namespace Go.Proofs.YtboafgimjadboaaGreatDoor
open Go.RowKit
set_option linter.unusedVariables false

def m00 : Mo := ⟨0, [], [], []⟩
theorem mp00 (w : World) : Mp w (.slice none 0 0) (.slice none 0 0) (.slice none 0 0) m00 :=
  ⟨⟨none, 0, 0, rfl, ⟨rfl, fun p hp => by simp [m00] at hp, fun j p hp => by simp [m00] at hp⟩, fun _ => rfl, Nat.le_refl _, Nat.zero_le _⟩, ⟨none, 0, 0, rfl, ⟨rfl, fun p hp => by simp [m00] at hp, fun j p hp => by simp [m00] at hp⟩, fun _ => rfl, Nat.le_refl _, Nat.zero_le _⟩, ⟨none, 0, 0, rfl, ⟨rfl, fun p hp => by simp [m00] at hp, fun j p hp => by simp [m00] at hp⟩, Nat.le_refl _, Nat.zero_le _⟩⟩

set_option maxRecDepth 100000 in
set_option maxHeartbeats 2000000 in
theorem decodes_law {W : World} {ab : Option Addr} {nb cb : Nat} {b : List UInt8} (hb0 : Wi.Bytes W ab cb b) (hnb : nb = b.length) (hg : Handle W) (hT : Ar.Tab W) (h2 : 2 ≤ W.heap.size) :
    Calls Tryz.prog 5 #[.slice ab nb cb] W fun e W' => e = .returned (.bool true) ∧ Below W.heap.size W W' := by
  have hsu := hid (fun (y : World) (hy : Below W.heap.size W y) => sure17_ok y (tab_below hT hy) (Nat.le_trans h2 hy.size))
  have hnu := hid (fun (y : World) (hy : Below W.heap.size W y) => num_err 17 y (hg.below hy))
  have hb := hid (fun (y : World) (hy : Below W.heap.size W y) => hb0.below hy)
  have hTh := hid hT
  have h2h := hid h2
  replace hnb := hid hnb
  clear hb0 hg hT h2
  go_enter Tryz.func5, Tryz.ntmps5
  by_cases h15 : 1500 < nb
  · have t1 : decide ((1500 : Int) < (nb : Int)) = true := decide_eq_true (by omega)
    have t2 : decide (1500 < nb) = true := decide_eq_true h15
    go_wp2_with fail
    refine (hsu.out W (Below.refl _ _)).mono ?_
    rintro e w3 ⟨rfl, b3⟩
    replace b3 := hid b3
    go_wp2_with fail
    go_ret
    exact ⟨rfl, b3.out⟩
  · have t1 : decide ((1500 : Int) < (nb : Int)) = false := decide_eq_false (by omega)
    have t2 : decide (1500 < nb) = false := decide_eq_false h15
    have hbl : b.length ≤ 1500 := by rw [← hnb.out]; omega
    have hdc := hid (decode_ok (hb.out W (Below.refl _ _)) hnb.out.symm (by omega) hTh.out h2h.out)
    have hrd := hid (fun (y : World) (hy : Below W.heap.size W y) => rdecode_ok (hb.out y hy) hnb.out.symm hbl)
    clear h15 hbl
    go_wp2_with fail
    refine hdc.out.mono ?_
    rintro e w2 ⟨b2, hout⟩
    replace b2 := hid b2
    clear hdc
    rcases hout with ⟨m, vv, ev, lv, his, rfl, hm, _, _, _⟩ | ⟨hno, rfl⟩
    · obtain ⟨va, vn, vc, ea, en, ec, la, ln, lc, rfl, rfl, rfl⟩ := mp_slices hm
      obtain ⟨N, hN⟩ : ∃ N, m.n = N := ⟨_, rfl⟩
      rw [hN]
      have n3 := new_of w2 #[.int .i64 N, .slice va vn vc, .slice ea en ec, .slice la ln lc] 36
      have b23 := balloc w2 (.cells #[.int .i64 N, .slice va vn vc, .slice ea en ec, .slice la ln lc] 36)
      have b3 := hid (b2.out.trans (b23.mono b2.out.size))
      go_upto_region 4 with fail
      obtain ⟨w3, hw3⟩ : ∃ w3, w2.alloc (.cells #[.int .i64 N, .slice va vn vc, .slice ea en ec, .slice la ln lc] 36) = w3 := ⟨_, rfl⟩
      rw [hw3] at n3 b23 b3 ⊢
      have hm3 := hid (hm.below b23)
      have hs3 : w2.heap.size < w3.heap.size := (Array.getElem?_eq_some_iff.1 n3).1
      obtain ⟨M, hM⟩ : ∃ M, w2.heap.size = M := ⟨_, rfl⟩
      rw [hM] at n3 hs3 ⊢
      have n3h := hid n3
      replace his := hid his
      replace hN := hid hN
      clear hw3 n3 b23 hm hM
      go_wp2_with fail
      refine (hrd.out w3 b3.out).mono ?_
      rintro e w4 ⟨b4, ⟨m', vv', ev', lv', his', rfl, hm', _, _, _⟩ | ⟨hno', rfl⟩⟩
      · obtain rfl := his.out.one his'
        obtain ⟨va', vn', vc', ea', en', ec', la', ln', lc', rfl, rfl, rfl⟩ := mp_slices hm'
        rw [hN.out]
        have n5 := new_of w4 #[.int .i64 N, .slice va' vn' vc', .slice ea' en' ec', .slice la' ln' lc'] 25
        have b45 := balloc w4 (.cells #[.int .i64 N, .slice va' vn' vc', .slice ea' en' ec', .slice la' ln' lc'] 25)
        have b35 := b4.trans (b45.mono b4.size)
        have b5 := hid (b3.out.trans (b35.mono b3.out.size))
        go_upto_region 5 with fail
        obtain ⟨w5, hw5⟩ : ∃ w5, w4.alloc (.cells #[.int .i64 N, .slice va' vn' vc', .slice ea' en' ec', .slice la' ln' lc'] 25) = w5 := ⟨_, rfl⟩
        rw [hw5] at n5 b45 b35 b5 ⊢
        have n35 := (b35.block M hs3).trans n3h.out
        have q0 := cell_of n35 (j := 0) rfl
        have q1 := cell_of n35 (j := 1) rfl
        have q2 := cell_of n35 (j := 2) rfl
        have q3 := cell_of n35 (j := 3) rfl
        have r0 := cell_of n5 (j := 0) rfl
        have r1 := cell_of n5 (j := 1) rfl
        have r2 := cell_of n5 (j := 2) rfl
        have r3 := cell_of n5 (j := 3) rfl
        have hsm := hid (sameM_ok (hm3.out.below b35) hN.out (hm'.below b45) hN.out true ⟨fun _ => rfl, fun _ => rfl⟩)
        clear hw5 n5 b45 b35 b4 hm' his' n35 n3h hm3 hrd hnu
        go_wp2_with fail
        refine hsm.out.mono ?_
        rintro e w6 ⟨rfl, b6⟩
        have b6' := hid (b5.out.trans (b6.mono b5.out.size))
        clear b6 hsm q0 q1 q2 q3 r0 r1 r2 r3
        go_wp2_with fail
        refine (hsu.out w6 b6'.out).mono ?_
        rintro e w7 ⟨rfl, b7⟩
        have b7' := hid (b6'.out.trans (b7.mono b6'.out.size))
        clear b7
        go_wp2_with fail
        go_ret
        exact ⟨rfl, b7'.out⟩
      · exact absurd his.out (hno' m)
    · have n3 := new_of w2 #[.int .i64 0, .slice none 0 0, .slice none 0 0, .slice none 0 0] 36
      have b23 := balloc w2 (.cells #[.int .i64 0, .slice none 0 0, .slice none 0 0, .slice none 0 0] 36)
      have b3 := hid (b2.out.trans (b23.mono b2.out.size))
      go_upto_region 4 with fail
      obtain ⟨w3, hw3⟩ : ∃ w3, w2.alloc (.cells #[.int .i64 0, .slice none 0 0, .slice none 0 0, .slice none 0 0] 36) = w3 := ⟨_, rfl⟩
      rw [hw3] at n3 b23 b3 ⊢
      have hs3 : w2.heap.size < w3.heap.size := (Array.getElem?_eq_some_iff.1 n3).1
      obtain ⟨M, hM⟩ : ∃ M, w2.heap.size = M := ⟨_, rfl⟩
      rw [hM] at n3 hs3 ⊢
      have n3h := hid n3
      replace hno := hid hno
      clear hw3 n3 b23 hM
      go_wp2_with fail
      refine (hrd.out w3 b3.out).mono ?_
      rintro e w4 ⟨b4, ⟨m', vv', ev', lv', his', rfl, hm', _, _, _⟩ | ⟨hno', rfl⟩⟩
      · exact absurd his' (hno.out m')
      · have n5 := new_of w4 #[.int .i64 0, .slice none 0 0, .slice none 0 0, .slice none 0 0] 25
        have b45 := balloc w4 (.cells #[.int .i64 0, .slice none 0 0, .slice none 0 0, .slice none 0 0] 25)
        have b35 := b4.trans (b45.mono b4.size)
        have b5 := hid (b3.out.trans (b35.mono b3.out.size))
        go_upto_region 5 with fail
        obtain ⟨w5, hw5⟩ : ∃ w5, w4.alloc (.cells #[.int .i64 0, .slice none 0 0, .slice none 0 0, .slice none 0 0] 25) = w5 := ⟨_, rfl⟩
        rw [hw5] at b35 b5 ⊢
        have n35 := hid ((b35.block M hs3).trans n3h.out)
        have hs5 : M < w5.heap.size := Nat.lt_of_lt_of_le hs3 b35.size
        clear hw5 n5 b45 b35 b4 hno' n3h hrd
        go_wp2_with fail
        refine (hnu.out w5 b5.out).mono ?_
        rintro e w6 ⟨rfl, b6⟩
        have n36 := (b6.block M hs5).trans n35.out
        have q0 := cell_of n36 (j := 0) rfl
        have q1 := cell_of n36 (j := 1) rfl
        have q2 := cell_of n36 (j := 2) rfl
        have q3 := cell_of n36 (j := 3) rfl
        have b6' := hid (b5.out.trans (b6.mono b5.out.size))
        have hsm := hid (sameM_ok (n := 0) (n' := 0) (mp00 w6) rfl (mp00 w6) rfl true ⟨fun _ => rfl, fun _ => rfl⟩)
        clear b6 n36 n35 hnu
        go_wp2_with fail
        refine hsm.out.mono ?_
        rintro e w7 ⟨rfl, b7⟩
        have b7' := hid (b6'.out.trans (b7.mono b6'.out.size))
        clear b7 hsm q0 q1 q2 q3
        go_wp2_with fail
        refine (hsu.out w7 b7'.out).mono ?_
        rintro e w8 ⟨rfl, b8⟩
        have b8' := hid (b7'.out.trans (b8.mono b7'.out.size))
        clear b8
        go_wp2_with fail
        go_ret
        exact ⟨rfl, b8'.out⟩

end Go.Proofs.YtboafgimjadboaaGreatDoor
