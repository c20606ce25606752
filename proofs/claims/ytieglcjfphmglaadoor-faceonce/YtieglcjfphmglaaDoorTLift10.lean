/- 'put', 'take' over what stands round; 'Lift', walked. -/
import Derived.Test.YtieglcjfphmglaaDoorTCheck10
import Derived.Test.YtieglcjfphmglaaDoorCo10
namespace Go.Proofs.YtieglcjfphmglaaDoor
open Go.RowKit
set_option linter.unusedVariables false

section
variable {w : World} {lo tb V E : Nat} {R : Nat → List Nat}

theorem TA.take (h : TA w lo tb V E R) (d v : Nat) (hv : v < V) (hd : d ∈ R v) : Calls Tryd.prog 55 #[.pointer (some ⟨tb, 0, none⟩), .int .i64 (d : Int)] w fun e w' => e = .returned (.tuple #[]) ∧ TA w' lo tb V E (outR R d) ∧ Kp lo w w' := by
  have hlen := h.tn.len hv
  have hEb := h.hE
  have hn := h.tn.nd v hv
  obtain ⟨dv, sv, K, M, D, S, h1, h2⟩ := h
  have og : ∀ x, x ∈ R v → x < K := fun x hx => h1.dlt (by rw [h2.on v x hv hx]; simp only []; omega)
  have hdeg := h2.deg v hv
  have hpos := List.length_pos_of_mem hd
  have hvM : v < M := by
    rcases Nat.lt_or_ge v M with q | q
    · exact q
    · have := h1.rs v q
      rw [this] at hdeg
      simp [sd0] at hdeg
      omega
  refine (take_ok d v (nx (R v) d) (pv (R v) d) h1 (og d hd) (h2.on v d hv hd) (og _ (nx_mem hd)) (og _ (pv_mem hn hd).1) hvM (by omega) (by omega)).mono ?_
  rintro e w' ⟨rfl, K', M', dv', sv', g1, g2⟩
  exact ⟨rfl, ⟨dv', sv', K', M', _, _, g1, h2.take hv hd⟩, g2⟩

theorem TA.putc (h : TA w lo tb V E R) (d v : Nat) (b : Int) (hc : Co V R (v : Int) b) (hd : d < 2 * E) (hn : ¬ In V R d) : Calls Tryd.prog 47 #[.pointer (some ⟨tb, 0, none⟩), .int .i64 (d : Int), .agg #[.int .i64 (v : Int), .int .i64 b]] w fun e w' => e = .returned (.tuple #[]) ∧ TA w' lo tb V E (putR R v (co b) d) ∧ Kp lo w w' := by
  have hEb := h.hE
  obtain ⟨u, e, hu, hcc⟩ := hc
  obtain rfl : v = u := by omega
  have hlen := h.tn.len hu
  obtain ⟨dv, sv, K, M, D, S, h1, h2⟩ := h
  have hdeg := h2.deg v hu
  rcases hcc with ⟨rfl, h3⟩ | ⟨k, rfl, h3⟩
  · refine (put_ok d v d d (-1) h1 hd hu (by omega) (.inl ⟨rfl, rfl, rfl⟩)).mono ?_
    rintro e w' ⟨rfl, K', M', dv', sv', g1, g2⟩
    exact ⟨rfl, ⟨dv', sv', K', M', _, _, g1, h2.alone hu h3 hn hd⟩, g2⟩
  · have hon := h2.on v k hu h3
    have hon2 := h2.on v _ hu (nx_mem h3)
    refine (put_ok d v (nx (R v) k) k (k : Int) h1 hd hu (by omega) (.inr ⟨rfl, by rw [hon], by rw [hon]; simp only []; omega, by rw [hon2]; simp only []; omega⟩)).mono ?_
    rintro e w' ⟨rfl, K', M', dv', sv', g1, g2⟩
    rw [co_some]
    exact ⟨rfl, ⟨dv', sv', K', M', _, _, g1, h2.put hu h3 hn hd⟩, g2⟩

set_option maxRecDepth 100000 in
set_option maxHeartbeats 1000000 in
theorem lift_nil (e : Int) (w : World) : Calls Tryd.prog 40 #[.pointer none, .int .i64 e] w fun x w' => x = .returned (.iface 74 (.int .i64 1)) ∧ w = w' := by
  have hh := hid (holds_nil e w)
  go_enter Tryd.func40, Tryd.ntmps40
  go_wp2_with fail
  refine hh.out.mono ?_
  rintro x w1 ⟨rfl, rfl⟩
  go_wp2_with fail
  go_ret
  exact ⟨rfl, rfl⟩

set_option maxRecDepth 100000 in
set_option maxHeartbeats 1000000 in
theorem lift_range (h : TA w lo tb V E R) (e : Int) (he : e < 0 ∨ (E : Int) ≤ e) : Calls Tryd.prog 40 #[.pointer (some ⟨tb, 0, none⟩), .int .i64 e] w fun x w' => x = .returned (.iface 74 (.int .i64 12)) ∧ w = w' := by
  obtain ⟨dv, sv, K, M, D, S, h1, h2⟩ := h
  have hh := hid (holds_range e h1 he)
  clear h1 h2 he
  go_enter Tryd.func40, Tryd.ntmps40
  go_wp2_with fail
  refine hh.out.mono ?_
  rintro x w1 ⟨rfl, rfl⟩
  go_wp2_with fail
  go_ret
  exact ⟨rfl, rfl⟩

set_option maxRecDepth 100000 in
set_option maxHeartbeats 1000000 in
theorem lift_stale (h : TA w lo tb V E R) (e : Nat) (he : e < E) (hn : ¬ In V R (2 * e)) : Calls Tryd.prog 40 #[.pointer (some ⟨tb, 0, none⟩), .int .i64 (e : Int)] w fun x w' => x = .returned (.iface 74 (.int .i64 13)) ∧ Below w.heap.size w w' := by
  obtain ⟨dv, sv, K, M, D, S, h1, h2⟩ := h
  have hh := hid (holds_ok e false h1 he (fun q => by cases q) (fun _ => h2.off _ hn))
  clear h1 h2 he hn
  go_enter Tryd.func40, Tryd.ntmps40
  go_wp2_with fail
  refine hh.out.mono ?_
  rintro x w1 ⟨rfl, b1⟩
  replace b1 := hid b1
  go_wp2_with fail
  go_ret
  exact ⟨rfl, b1.out⟩

set_option maxRecDepth 100000 in
set_option maxHeartbeats 1000000 in
theorem lift_ok (h : TA w lo tb V E R) (e : Nat) (he : e < E) (hi : In V R (2 * e)) (hj : In V R (2 * e + 1)) : Calls Tryd.prog 40 #[.pointer (some ⟨tb, 0, none⟩), .int .i64 (e : Int)] w fun x w' => x = .returned .nilIface ∧ TA w' lo tb V E (liftR R e) ∧ Kp lo w w' := by
  have hEb := h.hE
  have ht := h.tn
  have hs := hid (fun y => sides_ok e y (by omega))
  have h0 := hid h
  obtain ⟨dv, sv, K, M, D, S, h1, h2⟩ := h
  have hh := hid (holds_ok e true h1 he (fun _ => (h2.laid _).2 hi) (fun q => by cases q))
  obtain ⟨v, hv, hm⟩ := hj
  have h3 := hid (fun y (hy : TA y lo tb V E R) => hy.take (2 * e + 1) v hv hm)
  obtain ⟨u, hu, hm2⟩ := hi
  have hm3 : 2 * e ∈ outR R (2 * e + 1) u := (del_mem (ht.nd u hu)).2 ⟨hm2, by omega⟩
  have h4 := hid (fun y (hy : TA y lo tb V E (outR R (2 * e + 1))) => hy.take (2 * e) u hu hm3)
  have hfin := hid (out_out R (2 * e + 1) (2 * e))
  clear h1 h2 he hm hm2 hm3 ht
  go_enter Tryd.func40, Tryd.ntmps40
  go_wp2_with fail
  refine hh.out.mono ?_
  rintro x w1 ⟨rfl, b1⟩
  replace b1 := hid b1
  go_wp2_with fail
  refine (hs.out w1).mono ?_
  rintro x w1 ⟨rfl, rfl⟩
  go_wp2_with fail
  refine (h3.out _ (h0.out.more b1.out)).mono ?_
  rintro x w2 ⟨rfl, a2, k2⟩
  replace a2 := hid a2
  replace k2 := hid k2
  go_wp2_with fail
  refine (h4.out w2 a2.out).mono ?_
  rintro x w3 ⟨rfl, a3, k3⟩
  rw [hfin.out] at a3
  replace a3 := hid a3
  replace k3 := hid k3
  go_wp2_with fail
  go_ret
  exact ⟨rfl, a3.out, ((Kp.ofBelow b1.out lo).trans k2.out).trans k3.out⟩
end

end Go.Proofs.YtieglcjfphmglaaDoor
