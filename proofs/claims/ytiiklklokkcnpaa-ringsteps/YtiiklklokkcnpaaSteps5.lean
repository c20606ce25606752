/- 'RingSteps', walked. -/
import Derived.Test.YtiiklklokkcnpaaSure5
import Derived.Test.YtiiklklokkcnpaaOpen5
namespace Go.Proofs.Ytiiklklokkcnpaa
open Go.RowKit
set_option linter.unusedVariables false

section
variable {n : Nat} {seq : Nat → List Nat}

/-- A cycle from another one of its items on. -/
theorem step_at (p : Part n seq) {y d i j : Nat} (hy : y ≠ 0) (hi : (rot (seq y) y)[i]? = some d) (hj : j < (rot (seq y) y).length) : d ≠ 0 ∧ (seq d).length = (rot (seq y) y).length ∧ (rot (seq d) d)[j]? = (rot (seq y) y)[(i + j) % (rot (seq y) y).length]? := by
  have hm : d ∈ seq y := rot_mem.1 (List.mem_of_getElem? hi)
  obtain ⟨e, h0⟩ := p.mem y d hy hm
  refine ⟨h0, by rw [e, rot_len], ?_⟩
  rw [e, ← rot_rot (p.nd y hy) (p.self y hy) hm]
  exact rot_get (rot_nd (p.nd y hy)) hi hj
end

set_option maxRecDepth 100000 in
set_option maxHeartbeats 8000000 in
theorem steps_law (n : Int) (ad : Option Addr) (qs : List Act3) (cap : Nat) (o0 : Int) (wb : World) (hq : Acts3 wb ad qs) :
    Calls Try.prog 4 #[.int .i64 n, .slice ad qs.length cap, .int .i64 o0] wb fun e w' => e = .returned (.bool true) ∧ Below wb.heap.size wb w' := by
  obtain ⟨K, hK, hK1, hK2⟩ := mod_up n 20 (by decide) (by decide)
  have hK20 : K ≤ 20 := by omega
  have hql := hq.bound
  have hnew := hid (gnew_ok K wb (by omega) (by omega))
  replace hq := hid hq
  go_enter Try.func4, Try.ntmps4
  go_wp2_with fail
  try rw [hK]
  refine hnew.out.mono ?_
  rintro e w1 ⟨rb, fb, rfl, h1⟩
  have st1 : Hid (∃ v seq, RG wb.heap.size wb rb fb K v seq w1) := ⟨_, _, h1⟩
  clear h1 hnew hK
  go_wp2_with fail
  go_loopw [10, 11, 12] (fun u _ _ wr => ∃ t : Nat, t ≤ qs.length ∧ t ≤ 40 ∧ u = .int .i64 (t : Int) ∧ Hid (∃ v seq, RG wb.heap.size wb rb fb K v seq wr)) (fun u _ _ _ => 40 - (intOf u).toNat)
  case atStart => exact ⟨0, by omega, by omega, by go_num, st1⟩
  case round =>
    clear st1
    obtain ⟨t, ht1, ht2, rfl, hst⟩ := hrel
    by_cases hgo : t < qs.length ∧ t < 40
    · obtain ⟨hgo1, hgo2⟩ := hgo
      obtain ⟨q, hqt⟩ : ∃ q, qs[t]? = some q := ⟨_, List.getElem?_eq_getElem hgo1⟩
      obtain ⟨v, seq, h1⟩ := hst.out
      cases ad with
      | none => have := hq.out.nil rfl; subst this; simp at hgo1
      | some a0 =>
        obtain ⟨c0, c1, c2⟩ := (hq.out.below h1.fs.below).at hqt
        have h1 := hid h1
        obtain ⟨a, ha, haK⟩ := mod_inN q.a K (by omega) (by omega)
        obtain ⟨b, hb, hbK⟩ := mod_inN q.b K (by omega) (by omega)
        have i1 : (0 : Int) ≤ (t : Int) := by omega
        have i2 : (t : Int) < (qs.length : Int) := by omega
        clear hqt hst
        go_wp2_with fail
        go_region
        rw [ha, hb]
        have h2 := hid (h1.out.drew)
        generalize hwd : wr.drew = w2 at h2 ⊢
        have d0 : w2.cell? (a0.add (t * 3)) = some (.int .i64 q.k) := by rw [← hwd]; exact c0
        clear h1 c0 c1 c2 ha hb hwd
        cases hk4 : (Int.tmod q.k 4 == 0) with
        | true =>
          go_wp2_with fail
          refine (h2.out.splitAny a b haK hbK).mono ?_
          rintro e w3 ⟨r3, rfl, seq3, h3⟩
          have st4 : Hid (∃ v seq, RG wb.heap.size wb rb fb K v seq w3) := ⟨_, _, h3⟩
          clear h2 h3 d0
          go_wp2_with fail
          go_roundw
          case rel => exact ⟨t + 1, by omega, by omega, by go_num, st4⟩
          case measure => simp [intOf]; omega
        | false =>
          go_wp2_with fail
          refine (h2.out.mergeAny a b haK hbK).mono ?_
          rintro e w3 ⟨r3, rfl, seq3, h3⟩
          have st4 : Hid (∃ v seq, RG wb.heap.size wb rb fb K v seq w3) := ⟨_, _, h3⟩
          clear h2 h3 d0
          go_wp2_with fail
          go_roundw
          case rel => exact ⟨t + 1, by omega, by omega, by go_num, st4⟩
          case measure => simp [intOf]; omega
    · have hstop : qs.length ≤ t ∨ (t < qs.length ∧ 40 ≤ t) := by omega
      clear hgo
      obtain ⟨v, seq, h1⟩ := hst.out
      obtain ⟨y, hye, hyK⟩ := mod_inN o0 K (by omega) (by omega)
      have p := h1.fs.part
      obtain ⟨R, hR⟩ : ∃ R, rot (seq (y + 1)) (y + 1) = R := ⟨_, rfl⟩
      have hR0 : R[0]? = some (y + 1) := by
        obtain ⟨T, hT⟩ := rot_head (p.self (y + 1) (by omega))
        rw [← hR, hT]; rfl
      have hRnd : R.Nodup := by rw [← hR]; exact rot_nd (p.nd _ (by omega))
      have hRp : 0 < R.length := (List.getElem?_eq_some_iff.1 hR0).1
      obtain ⟨k, hk⟩ : ∃ k, R.length = k := ⟨_, rfl⟩
      have hsl : (seq (y + 1)).length = k := by rw [← hk, ← hR, rot_len]
      have hkK : k ≤ K := by
        have hsub : (seq (y + 1)).length ≤ (List.range' 1 K).length := (p.nd (y + 1) (by omega)).length_le_of_subset (fun z hz => by
          have h1 := p.le (y + 1) z (by omega) (by omega) hz
          have h2 := (p.mem (y + 1) z (by omega) hz).2
          rw [List.mem_range'_1]; omega)
        rw [List.length_range', hsl] at hsub
        exact hsub
      rw [hk] at hRp
      have hlen := h1.len y hyK
      rw [hsl] at hlen
      have hlen := hid hlen
      replace p := hid p
      replace hR0 := hid hR0
      replace hRnd := hid hRnd
      replace hR := hid hR
      replace hk := hid hk
      clear hst h1 hsl
      have t1 : decide ((k : Int) < 1) = false := decide_eq_false (by omega)
      have t2 : decide ((K : Int) < (k : Int)) = false := decide_eq_false (by omega)
      have t3 : decide (K < k) = false := decide_eq_false (by omega)
      rcases hstop with hstop | ⟨hstop1, hstop2⟩
      all_goals
        go_wp2_with fail
        try rw [hye]
        refine hlen.out.mono ?_
        rintro e w3 ⟨rfl, h3, k3⟩
        have st3 := hid h3
        clear h3 k3 hlen
        go_wp2_with fail
        try simp only [t3]
        clear t1 t2 t3
        go_loopw [16, 17, 18, 19, 20, 21] (fun a u _ _ _ _ wr => ∃ i d : Nat, i ≤ k ∧ u = .int .i64 (i : Int) ∧ a = .int .i64 (d : Int) ∧ Hid (R[i % k]? = some (d + 1)) ∧ Hid (RG wb.heap.size wb rb fb K v seq wr)) (fun _ u _ _ _ _ _ => k - (intOf u).toNat)
        case atStart => exact ⟨0, y, by omega, by go_num, rfl, hid (by rw [Nat.zero_mod]; exact hR0.out), st3⟩
        case round =>
          clear st3
          obtain ⟨i, d, hi, rfl, rfl, hd, h4⟩ := hrel
          rcases Nat.lt_or_ge i k with hik | hik
          · have hdK : d < K := by
              have hm : d + 1 ∈ seq (y + 1) := rot_mem.1 (by rw [hR.out]; exact List.mem_of_getElem? hd.out)
              have := p.out.le (y + 1) (d + 1) (by omega) (by omega) hm
              omega
            have hfirst : i = 0 ∨ (0 < i ∧ d ≠ y) := by
              rcases Nat.eq_zero_or_pos i with h0 | h0
              · exact Or.inl h0
              · refine Or.inr ⟨h0, fun e => ?_⟩
                have h5 := hd.out
                rw [e, Nat.mod_eq_of_lt hik] at h5
                have := (List.getElem?_inj (by rw [hk.out]; exact hik) hRnd.out).1 (h5.trans hR0.out.symm)
                omega
            obtain ⟨s0, s1, s2⟩ := step_at p.out (j := 1 % k) (show y + 1 ≠ 0 by omega) (by rw [hR.out]; exact hd.out) (by rw [hR.out, hk.out]; exact Nat.mod_lt _ (by omega))
            rw [hR.out, hk.out] at s1 s2
            have hnx := h4.out.next d hdK
            rw [s1, s2, show (i % k + 1 % k) % k = (i + 1) % k from by rw [← Nat.add_mod]] at hnx
            replace hnx := hid hnx
            clear s0 s1 s2
            rcases hfirst with h0 | ⟨h0, hdy⟩
            all_goals
              first
                | (subst h0)
                | (have u1 : decide ((0 : Int) < (i : Int)) = true := decide_eq_true (by omega); have u2 : ((d : Int) == (y : Int)) = false := by rw [beq_eq_false_iff_ne]; omega)
              go_wp2_with fail
              refine hnx.out.mono ?_
              rintro e w5 ⟨f, hf, rfl, h5, k5⟩
              have hfK : f < K := by
                have hm : f + 1 ∈ seq (y + 1) := rot_mem.1 (by rw [hR.out]; exact List.mem_of_getElem? hf)
                have := p.out.le (y + 1) (f + 1) (by omega) (by omega) hm
                omega
              obtain ⟨s0, s1, s2⟩ := step_at p.out (j := k - 1) (show y + 1 ≠ 0 by omega) (by rw [hR.out]; exact hf) (by rw [hR.out, hk.out]; omega)
              rw [hR.out, hk.out] at s1 s2
              have hpv := h5.prev f hfK
              rw [s1, s2] at hpv
              replace hpv := hid hpv
              replace hf := hid hf
              clear hnx h4 h5 k5 s0 s1 s2
              go_wp2_with fail
              refine hpv.out.mono ?_
              rintro e w6 ⟨d', hd', rfl, h6, k6⟩
              obtain rfl : d' = d := by
                have h7 := hd.out
                rw [show ∀ i : Nat, i < k → ((i + 1) % k + (k - 1)) % k = i % k from fun i _ => by rw [Nat.mod_add_mod, show i + 1 + (k - 1) = i + k by omega, Nat.add_mod_right]] at hd'
                · rw [hd'] at h7
                  injection h7 with h7
                  omega
                · omega
              have h6 := hid h6
              clear hpv k6 hd'
              go_wp2_with fail
              go_roundw
              case rel => exact ⟨_, f, by omega, by go_num, rfl, hf, h6⟩
              case measure => simp [intOf]; omega
          · obtain rfl : d = y := by
              have h7 := hd.out
              rw [show i = k by omega, Nat.mod_self, hR0.out] at h7
              injection h7 with h7
              omega
            clear hd
            go_wp2_with fail
            refine (sure_ok _).mono ?_
            rintro e ws ⟨rfl, bs⟩
            have hs := hid (h4.out.more bs)
            clear bs
            go_wp2_with fail
            go_ret
            exact ⟨rfl, hs.out.fs.below⟩

end Go.Proofs.Ytiiklklokkcnpaa
