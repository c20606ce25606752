/- What the laws ask of a Forest whatever was done to it. -/
import Derived.Test.YtpelpcplagfdiaaDoorSure4
import Derived.Test.YtpelpcplagfdiaaDoorOpen4
namespace Go.Proofs.YtpelpcplagfdiaaDoor
open Go.RowKit
set_option linter.unusedVariables false

theorem mod_inN (z : Int) (C : Nat) (h1 : 1 ≤ C) (h2 : C ≤ 1048576) : ∃ a : Nat, wrap64 ((IntKind.u64.wrap z).tmod (C : Int)) = (a : Int) ∧ a < C := by
  have e : (IntKind.u64.wrap z).tmod (C : Int) = z % 18446744073709551616 % (C : Int) := by
    rw [IntKind.wrap_u64, Int.tmod_eq_emod_of_nonneg (by omega)]
  have g1 : 0 ≤ z % 18446744073709551616 % (C : Int) := Int.emod_nonneg _ (by omega)
  have g2 : z % 18446744073709551616 % (C : Int) < C := Int.emod_lt_of_pos _ (by omega)
  rw [e]
  generalize z % 18446744073709551616 % (C : Int) = r at g1 g2
  refine ⟨r.toNat, ?_, by omega⟩
  rw [IntWalk.wrap64_in r ⟨by omega, by omega⟩]
  omega

theorem mod_up (n M : Int) (h1 : 1 ≤ M) (h2 : M ≤ 1000000) : ∃ K : Nat, wrap64 (1 + wrap64 ((IntKind.u64.wrap n).tmod M)) = (K : Int) ∧ 1 ≤ K ∧ (K : Int) ≤ M := by
  have e : (IntKind.u64.wrap n).tmod M = n % 18446744073709551616 % M := by
    rw [IntKind.wrap_u64, Int.tmod_eq_emod_of_nonneg (by omega)]
  have g1 : 0 ≤ n % 18446744073709551616 % M := Int.emod_nonneg _ (by omega)
  have g2 : n % 18446744073709551616 % M < M := Int.emod_lt_of_pos _ (by omega)
  rw [e]
  generalize n % 18446744073709551616 % M = r at g1 g2
  refine ⟨(1 + r).toNat, ?_, by omega, by omega⟩
  have w1 : wrap64 r = r := IntWalk.wrap64_in r ⟨by omega, by omega⟩
  have w2 : wrap64 (1 + r) = 1 + r := IntWalk.wrap64_in _ ⟨by omega, by omega⟩
  rw [w1, w2]
  omega

section
variable {N n lo fb : Nat} {w wr : World} {T : Tb} {v : Nat → Int} {sub seq : Nat → List Nat}

theorem Gd.mem_le (h : Gd N T v sub seq) (hN : N ≤ n + 1) {x y : Nat} (hx : x ≠ 0) (hxn : x ≤ n) (hy : y ∈ seq x) : y ≤ n := by
  obtain ⟨r, h1, h2, h3, h4, _⟩ := h.inv.top h.len (N + 1) x (by omega) hx
  rw [h3] at hy
  have lt : ∀ z, z ∈ sub r → z ≠ r → z < N := fun z hz hne => h.lt (h.inv.sub_up h1 hz hne)
  by_cases e : y = r
  · by_cases e2 : x = r
    · omega
    · rcases Nat.lt_or_ge r N with h5 | h5
      · omega
      · have := h.inv.eqn r h1 false
        have hz := h.zero r h5
        rw [hz] at this
        have e3 : sub r = [r] := by
          rw [this]
          show flp false (cat false (sub 0) r (sub 0)) = _
          rw [h.inv.sub0]
          rfl
        rw [e3] at h4
        exact absurd (List.mem_singleton.1 h4) e2
  · have := lt y hy e; omega

/-- What a Forest's sequences are like. -/
structure Part (n : Nat) (seq : Nat → List Nat) : Prop where
  self : ∀ x, x ≠ 0 → x ∈ seq x
  mem : ∀ x y, x ≠ 0 → y ∈ seq x → seq y = seq x ∧ y ≠ 0
  nd : ∀ x, x ≠ 0 → (seq x).Nodup
  le : ∀ x y, x ≠ 0 → x ≤ n → y ∈ seq x → y ≤ n
  len : ∀ x, x ≠ 0 → (seq x).length ≤ 8388610

theorem FS.part (h : FS lo w fb n v seq wr) : Part n seq := by
  obtain ⟨nb, N, T, sub, _, hg, hN, _⟩ := h.st
  exact ⟨fun x hx => hg.self hx, fun x y hx hy => hg.mem_seq hx hy, fun x hx => hg.seq_nd hx, fun x y hx hxn hy => hg.mem_le hN hx hxn hy, fun x hx => by have := hg.seq_len hx; have := hg.big; omega⟩

/-- Joined, or not: a Forest it is. -/
theorem FS.joinAny (h : FS lo w fb n v seq wr) (x y : Nat) (hx : x < n) (hy : y < n) :
    Calls Tryd.prog 8 #[.pointer (some ⟨fb, 0, none⟩), .int .i64 (x : Int), .int .i64 (y : Int)] wr fun e w' => ∃ u, e = .returned u ∧ (∃ seq', FS lo w fb n v seq' w') ∧ Keep wr w' := by
  by_cases e : seq (x + 1) = seq (y + 1)
  · refine (h.join_same x y hx hy e).mono ?_
    rintro e w' ⟨rfl, h1, k1⟩
    exact ⟨_, rfl, ⟨_, h1⟩, k1⟩
  · refine (h.join x y hx hy e).mono ?_
    rintro e w' ⟨rfl, h1, k1⟩
    exact ⟨_, rfl, ⟨_, h1⟩, k1⟩

theorem FS.reverseAny (h : FS lo w fb n v seq wr) (x : Nat) (hx : x < n) :
    Calls Tryd.prog 12 #[.pointer (some ⟨fb, 0, none⟩), .int .i64 (x : Int)] wr fun e w' => ∃ u, e = .returned u ∧ (∃ seq', FS lo w fb n v seq' w') ∧ Keep wr w' := by
  refine (h.reverse x hx).mono ?_
  rintro e w' ⟨rfl, h1, k1⟩
  exact ⟨_, rfl, ⟨_, h1⟩, k1⟩

theorem FS.cutAny (h : FS lo w fb n v seq wr) (x : Nat) (hx : x < n) :
    Calls Tryd.prog 9 #[.pointer (some ⟨fb, 0, none⟩), .int .i64 (x : Int)] wr fun e w' => ∃ b, e = .returned (.tuple #[.bool b, .nilIface]) ∧ (∃ seq', FS lo w fb n v seq' w') ∧ Keep wr w' := by
  refine (h.cut x hx).mono ?_
  rintro e w' ⟨A, B, _, rfl, h1, k1⟩
  exact ⟨_, rfl, ⟨_, h1⟩, k1⟩
end

theorem revS_self {n : Nat} {seq : Nat → List Nat} (h : Part n seq) {x : Nat} (hx : x ≠ 0) : revS seq x x = (seq x).reverse := by
  unfold revS; rw [if_pos (h.self x hx)]

theorem Rw.keeps {w w' : World} {u : Value} {l : List Nat} (h : Rw w u l) (k : Keep w w') : Rw w' u l := h.keep k

end Go.Proofs.YtpelpcplagfdiaaDoor
