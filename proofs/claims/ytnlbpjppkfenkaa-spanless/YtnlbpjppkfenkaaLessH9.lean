/- What 'SpanLess' asks. -/
import Derived.Test.YtnlbpjppkfenkaaPick9
import Derived.Test.YtnlbpjppkfenkaaRestH9
import Derived.Test.YtnlbpjppkfenkaaOpen9
import Derived.Deep.RegionLaw
namespace Go.Proofs.Ytnlbpjppkfenkaa
open Go.RowKit
set_option linter.unusedVariables false

theorem rjoin_any (u : Value) (n a b : Nat) (f : Nat → Nat) (w : World) (h : Ls w u n f) (ha : a < n) (hb : b < n) (hn : n ≤ 1000) (hf : ∀ x, f x ≤ x) :
    Calls Try.prog 10 #[u, .int .i64 (a : Int), .int .i64 (b : Int)] w fun e w' => ∃ u' t, e = .returned (.tuple #[u', .bool t]) ∧ t = (!decide (f a = f b)) ∧ Ls w' u' n (jn f a b) ∧ Below w.heap.size w w' := by
  by_cases he : f a = f b
  · refine (rjoin_same u n a b f w h ha hb hn he).mono ?_
    rintro e w' ⟨rfl, b1⟩
    exact ⟨u, false, rfl, by rw [decide_eq_true he]; rfl, by rw [jn_same he]; exact h.below b1, b1⟩
  · refine (rjoin_new u n a b f w h ha hb hn he (fun x _ => hf x)).mono ?_
    rintro e w' ⟨u', rfl, h1, b1⟩
    exact ⟨u', true, rfl, by rw [decide_eq_false he]; rfl, h1, b1⟩

/-- An edge with its ends brought into range. -/
def md (K : Nat) (q : Ed) : Ed := ⟨wrap64 ((IntKind.u64.wrap q.a).tmod (K : Int)), wrap64 ((IntKind.u64.wrap q.b).tmod (K : Int)), q.w⟩

theorem md_nat (K : Nat) (h1 : 1 ≤ K) (h2 : K ≤ 1048576) (q : Ed) : ∃ x y : Nat, md K q = ⟨(x : Int), (y : Int), q.w⟩ ∧ x < K ∧ y < K ∧ wrap64 ((IntKind.u64.wrap q.a).tmod (K : Int)) = (x : Int) ∧ wrap64 ((IntKind.u64.wrap q.b).tmod (K : Int)) = (y : Int) := by
  obtain ⟨x, hx, hx2⟩ := mod_inN q.a K h1 h2
  obtain ⟨y, hy, hy2⟩ := mod_inN q.b K h1 h2
  exact ⟨x, y, by unfold md; rw [hx, hy], hx2, hy2, hx, hy⟩

theorem md_ok (K : Nat) (h1 : 1 ≤ K) (h2 : K ≤ 1048576) (l : List Ed) : Okr (K : Int) (l.map (md K)) := fun q hq => by
  obtain ⟨r, _, rfl⟩ := List.mem_map.1 hq
  obtain ⟨x, y, e, hx, hy, _⟩ := md_nat K h1 h2 r
  rw [e]
  unfold Inr
  simp only []
  omega

theorem md_wr (K : Nat) (l : List Ed) (h : Wr l) : Wr (l.map (md K)) := fun q hq => by
  obtain ⟨r, hr, rfl⟩ := List.mem_map.1 hq
  exact h r hr

/-- The order of the other forest: its first steps. -/
def ordL (N m : Nat) (c : Nat → Nat) : Nat → List Nat
  | 0 => []
  | i + 1 => ordL N m c i ++ (if i < N then (if m = 0 then [] else [c i]) else [i - N])

theorem ordL_lt {N m : Nat} {c : Nat → Nat} (hc : ∀ i, i < N → m ≠ 0 → c i < m) : ∀ i, i ≤ N + m → ∀ x, x ∈ ordL N m c i → x < m := by
  intro i
  induction i with
  | zero => intro _ x hx; simp [ordL] at hx
  | succ i ih =>
    intro hi x hx
    unfold ordL at hx
    rcases List.mem_append.1 hx with hx | hx
    · exact ih (by omega) x hx
    · split at hx
      · split at hx
        · simp at hx
        · simp at hx; subst hx; exact hc i (by assumption) (by assumption)
      · simp at hx; omega

theorem ordL_mem {N m : Nat} {c : Nat → Nat} (hc : ∀ i, i < N → m ≠ 0 → c i < m) (x : Nat) : x ∈ ordL N m c (N + m) ↔ x < m := by
  have h2 : ∀ i, N ≤ i → ∀ x, x < i - N → x ∈ ordL N m c i := by
    intro i
    induction i with
    | zero => intro _ x hx; omega
    | succ i ih =>
      intro hi x hx
      unfold ordL
      by_cases hz : i < N
      · omega
      · rw [if_neg hz]
        by_cases e : x = i - N
        · exact List.mem_append_right _ (by simp [e])
        · exact List.mem_append_left _ (ih (by omega) x (by omega))
  exact ⟨ordL_lt hc _ (Nat.le_refl _) x, fun hx => h2 _ (by omega) x (by omega)⟩

theorem ordL_none {N m : Nat} {c : Nat → Nat} {i : Nat} (h : i < N) (hm : m = 0) : ordL N m c (i + 1) = ordL N m c i := by
  conv => lhs; unfold ordL
  rw [if_pos h, if_pos hm, List.append_nil]
theorem ordL_other {N m : Nat} {c : Nat → Nat} {i : Nat} (h : i < N) (hm : m ≠ 0) : ordL N m c (i + 1) = ordL N m c i ++ [c i] := by
  conv => lhs; unfold ordL
  rw [if_pos h, if_neg hm]
theorem ordL_rest {N m : Nat} {c : Nat → Nat} {i : Nat} (h : ¬ i < N) : ordL N m c (i + 1) = ordL N m c i ++ [i - N] := by
  conv => lhs; unfold ordL
  rw [if_neg h]

theorem kr_push {A B : Nat → Nat} {is : List Nat} {i : Nat} : kr A B (fun x => x) (is ++ [i]) = kr A B (fun x => x) is ++ (if jl A B (fun x => x) is (A i) = jl A B (fun x => x) is (B i) then [] else [i]) := by
  rw [kr_append]
  congr 1

theorem jl_push {A B : Nat → Nat} {is : List Nat} {i : Nat} : jl A B (fun x => x) (is ++ [i]) = jn (jl A B (fun x => x) is) (A i) (B i) := by
  rw [jl_append]; rfl

end Go.Proofs.Ytnlbpjppkfenkaa
