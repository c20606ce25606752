/- face.twin, face.Next, face.behind, walked. -/
import Derived.Test.YtieglcjfphmglaaDoorApi10
import Derived.Test.YtieglcjfphmglaaDoorFace11
namespace Go.Proofs.YtieglcjfphmglaaDoor
open Go.RowKit
set_option linter.unusedVariables false

theorem xor_one (n : Nat) : n ^^^ 1 = if n % 2 = 0 then n + 1 else n - 1 := by
  have h1 : (n ^^^ 1) / 2 = n / 2 := by rw [Nat.xor_div_two]; simp
  have h2 : (n ^^^ 1) % 2 = 1 ↔ ¬ ((n % 2 = 1) ↔ (1 % 2 = 1)) := Nat.xor_mod_two_eq_one
  split <;> omega

/-- The other dart of the edge, of any number. -/
def twI (d : Int) : Int := if d % 2 = 0 then d + 1 else d - 1

theorem twI_nat (d : Nat) : twI (d : Int) = (tw d : Int) := by
  unfold twI tw
  by_cases h : d % 2 = 0
  · rw [if_pos (by omega), if_pos h]; omega
  · rw [if_neg (by omega), if_neg h]; omega

theorem bits_twin (d : Int) (h1 : -9223372036854775808 ≤ d) (h2 : d ≤ 9223372036854775807) : bits .xor .i64 d 1 = twI d := by
  show IntKind.i64.wrap (((BitVec.ofInt 64 d) ^^^ (BitVec.ofInt 64 1)).toNat : Nat) = twI d
  rw [BitVec.toNat_xor]
  have e1 : (BitVec.ofInt 64 1).toNat = 1 := by decide
  have e2 : (BitVec.ofInt 64 d).toNat = (d % 18446744073709551616).toNat := by rw [BitVec.toNat_ofInt]; rfl
  rw [e1, e2, xor_one]
  rw [IntKind.wrap_i64]
  unfold twI
  split <;> split <;> omega

set_option maxRecDepth 100000 in
set_option maxHeartbeats 1000000 in
theorem twin_ok (d : Int) (w : World) (h1 : -9223372036854775808 ≤ d) (h2 : d ≤ 9223372036854775807) : Calls Tryd.prog 37 #[.int .i64 d] w fun x w' => x = .returned (.int .i64 (twI d)) ∧ w = w' := by
  have hb := hid (bits_twin d h1 h2)
  go_enter Tryd.func37, Tryd.ntmps37
  go_wp2_with fail
  go_ret
  rw [hb.out]
  exact ⟨rfl, rfl⟩

/-- What face.Next answers. -/
def Fn (V E : Nat) (R : Nat → List Nat) (d n : Int) (r : Value) : Prop :=
  (r = .iface 74 (.int .i64 12) ∧ n = 0 ∧ (d < 0 ∨ 2 * (E : Int) ≤ d)) ∨ (r = .iface 74 (.int .i64 13) ∧ n = 0 ∧ ∃ k : Nat, d = (k : Int) ∧ k < 2 * E ∧ ¬ In V R k) ∨ (r = .nilIface ∧ ∃ k : Nat, d = (k : Int) ∧ In V R k ∧ n = (fx V R k : Int))

theorem Fn.of {V E : Nat} {R : Nat → List Nat} (ht : Tn V E R) (hw : Tw V E R) {d n p o : Int} {r : Value} (h : Nxt V E R (twI d) n p o r) : Fn V E R d n r := by
  rcases h with ⟨h1, h2, _, _, h5⟩ | ⟨h1, h2, _, _, k, h5, h6, h7⟩ | ⟨h1, k, u, h2, h3, h4, h5, _, _⟩
  · refine .inl ⟨h1, h2, ?_⟩
    unfold twI at h5
    split at h5 <;> omega
  · have hk : d = (tw k : Int) := by
      rw [← twI_nat]
      unfold twI at h5 ⊢
      split at h5 <;> split <;> omega
    exact .inr (.inl ⟨h1, h2, tw k, hk, tw_lt h6, fun q => h7 ((In.tw_iff ht hw).1 q)⟩)
  · have hk : d = (tw k : Int) := by
      rw [← twI_nat]
      unfold twI at h2 ⊢
      split at h2 <;> split <;> omega
    have hi : In V R k := ⟨u, h3, h4⟩
    refine .inr (.inr ⟨h1, tw k, hk, hi.tw ht hw, ?_⟩)
    rw [fx_yes (hi.tw ht hw), tw_tw, vx_at ht h3 h4]
    exact h5

set_option maxRecDepth 100000 in
set_option maxHeartbeats 1000000 in
theorem fnext_nil (d : Int) (w : World) (h1 : -9223372036854775808 ≤ d) (h2 : d ≤ 9223372036854775807) : Calls Tryd.prog 11 #[.pointer none, .int .i64 d] w fun x w' => x = .returned (.tuple #[.int .i64 0, .iface 74 (.int .i64 1)]) ∧ Below w.heap.size w w' := by
  have hn := hid (fun z y => next_nil z y)
  have ht := hid (twin_ok d w h1 h2)
  go_enter Tryd.func11, Tryd.ntmps11
  go_wp2_with fail
  refine ht.out.mono ?_
  rintro x w1 ⟨rfl, rfl⟩
  go_wp2_with fail
  refine (hn.out _ _).mono ?_
  rintro x w1 ⟨rfl, b1⟩
  replace b1 := hid b1
  go_wp2_with fail
  go_ret2
  exact ⟨rfl, b1.out⟩

set_option maxRecDepth 100000 in
set_option maxHeartbeats 1000000 in
theorem fnext_raw {tb : Nat} (d n : Int) (r : Value) (w : World) (h1 : -9223372036854775808 ≤ d) (h2 : d ≤ 9223372036854775807) (hn : Calls Tryd.prog 32 #[.pointer (some ⟨tb, 0, none⟩), .int .i64 (twI d)] w fun e w' => e = .returned (.tuple #[.int .i64 n, r]) ∧ Below w.heap.size w w') : Calls Tryd.prog 11 #[.pointer (some ⟨tb, 0, none⟩), .int .i64 d] w fun x w' => x = .returned (.tuple #[.int .i64 n, r]) ∧ Below w.heap.size w w' := by
  replace hn := hid hn
  have ht := hid (twin_ok d w h1 h2)
  go_enter Tryd.func11, Tryd.ntmps11
  go_wp2_with fail
  refine ht.out.mono ?_
  rintro x w1 ⟨rfl, rfl⟩
  go_wp2_with fail
  refine hn.out.mono ?_
  rintro x w1 ⟨rfl, b1⟩
  replace b1 := hid b1
  go_wp2_with fail
  go_ret2
  exact ⟨rfl, b1.out⟩

section
variable {w : World} {lo tb V E : Nat} {R : Nat → List Nat}

theorem fnext_any (h : TA w lo tb V E R) (hw : Tw V E R) (d : Int) (h1 : -9223372036854775808 ≤ d) (h2 : d ≤ 9223372036854775807) : ∃ n r, Fn V E R d n r ∧ ∀ y, Below w.heap.size w y → Calls Tryd.prog 11 #[.pointer (some ⟨tb, 0, none⟩), .int .i64 d] y fun x w' => x = .returned (.tuple #[.int .i64 n, r]) ∧ Below y.heap.size y w' := by
  obtain ⟨n, p, o, r, ho, hn, _⟩ := two_ok h (twI d)
  exact ⟨n, r, Fn.of h.tn hw ho, fun y hy => fnext_raw d n r y h1 h2 (hn y hy)⟩

theorem fnext_in (h : TA w lo tb V E R) (hw : Tw V E R) (k : Nat) (hk : In V R k) : Calls Tryd.prog 11 #[.pointer (some ⟨tb, 0, none⟩), .int .i64 (k : Int)] w fun x w' => x = .returned (.tuple #[.int .i64 (fx V R k : Int), .nilIface]) ∧ Below w.heap.size w w' := by
  have hl := hk.low h.tn
  have hE := h.hE
  obtain ⟨n, r, hf, hc⟩ := fnext_any h hw (k : Int) (by omega) (by omega)
  have hc := hc w (Below.refl _ _)
  rcases hf with ⟨_, _, q⟩ | ⟨_, _, j, e, _, q⟩ | ⟨rfl, j, e, _, rfl⟩
  · omega
  · obtain rfl : k = j := by omega
    exact absurd hk q
  · obtain rfl : k = j := by omega
    exact hc

set_option maxRecDepth 100000 in
set_option maxHeartbeats 1000000 in
theorem behind_ok (h : TA w lo tb V E R) (hw : Tw V E R) (k : Nat) (hk : In V R k) : Calls Tryd.prog 36 #[.pointer (some ⟨tb, 0, none⟩), .int .i64 (k : Int)] w fun x w' => x = .returned (.int .i64 (fx V R k : Int)) ∧ Below w.heap.size w w' := by
  have hn := hid (fnext_in h hw k hk)
  clear h hw hk
  go_enter Tryd.func36, Tryd.ntmps36
  go_wp2_with fail
  refine hn.out.mono ?_
  rintro x w1 ⟨rfl, b1⟩
  replace b1 := hid b1
  go_wp2_with fail
  go_ret
  exact ⟨rfl, b1.out⟩
end

end Go.Proofs.YtieglcjfphmglaaDoor
