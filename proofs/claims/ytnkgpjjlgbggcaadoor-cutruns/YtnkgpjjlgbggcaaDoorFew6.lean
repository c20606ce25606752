/- Roads keep to the nodes that there are: plain facts. -/
import Derived.Test.YtnkgpjjlgbggcaaDoorLaws6
namespace Go.Proofs.YtnkgpjjlgbggcaaDoor
open Go.RowKit
set_option linter.unusedVariables false

section
variable {T : Tb} {v : Nat → Int} {sub seq : Nat → List Nat} {N : Nat} {pp par : Nat → Nat}

theorem Gd.seq_far (h : Gd N T v sub seq) {x : Nat} (hx : x ≠ 0) (hN : N ≤ x) : seq x = [x] := by
  have hz := h.zero x hN
  have hu : (T x).up = 0 := by rw [hz]; rfl
  rw [h.inv.root x hx hu]
  have := h.inv.eqn x hx false
  rw [hz] at this
  rw [this]
  show flp false (cat false (sub 0) x (sub 0)) = _
  rw [h.inv.sub0]
  rfl

theorem Lc.par_lt (h : Lc N T v sub seq pp par) {x : Nat} (hx : x ≠ 0) (hp : par x ≠ 0) : x < N ∧ par x < N := by
  have h1 : x < N := by
    rcases Nat.lt_or_ge x N with e | e
    · exact e
    · have hc := h.chn x hx
      rw [h.gd.seq_far hx e, h.pN x e] at hc
      exact absurd hc.1 hp
  refine ⟨h1, ?_⟩
  have hm := h.gd.self hx
  obtain ⟨A, B, e⟩ := List.append_of_mem hm
  have hc := h.chn x hx
  rw [e] at hc
  have hpx := chn_at hc
  cases A with
  | nil => rw [hpx]; exact h.plt x
  | cons z A =>
    have hy := lst_mem (pp x) (z :: A) (by simp)
    rw [← hpx] at hy
    have hys : par x ∈ seq x := by rw [e]; exact List.mem_append.2 (Or.inl hy)
    obtain ⟨e2, e3⟩ := h.gd.mem_seq hx hys
    rcases Nat.lt_or_ge (par x) N with e4 | e4
    · exact e4
    · rw [h.gd.seq_far e3 e4] at e2
      rw [← e2] at hm
      have := List.mem_singleton.1 hm
      omega
end

theorem Wk.all {adj : Nat → Nat → Prop} {P : Nat → Prop} (hP : ∀ x y, adj x y → P x ∧ P y) {a b : Nat} {l : List Nat} (h : Wk adj a b l) : P a → ∀ z, z ∈ l → P z := by
  induction h with
  | one a _ => intro ha z hz; rw [List.mem_singleton.1 hz]; exact ha
  | step a c b l _ hac _ ih =>
    intro ha z hz
    rcases List.mem_cons.1 hz with rfl | hz
    · exact ha
    · exact ih (hP _ _ hac).2 z hz

section
variable {lo fb n : Nat} {w w0 : World} {v : Nat → Int} {adj : Nat → Nat → Prop}

theorem FS.adj_le (h : FS lo w fb n v adj w0) {x y : Nat} (e : adj x y) : x ≤ n ∧ y ≤ n := by
  obtain ⟨nb, N, T, sub, seq, pp, par, f1, f2, f3, f4, f5⟩ := h.st
  obtain ⟨a1, a2, a3⟩ := (f3 x y).1 e
  rcases a3 with a3 | a3
  · have := f2.par_lt a1 (by rw [a3]; exact a2)
    rw [a3] at this
    omega
  · have := f2.par_lt a2 (by rw [a3]; exact a1)
    rw [a3] at this
    omega

theorem FS.road_le (h : FS lo w fb n v adj w0) {x b : Nat} {l : List Nat} (hl : Rd adj (x + 1) b l) (hx : x < n) : ∀ z, z ∈ l → z ≠ 0 ∧ z ≤ n := fun z hz =>
  ⟨hl.wk.ne z hz, hl.wk.all (P := fun z => z ≤ n) (fun x y e => h.adj_le e) (by omega) z hz⟩

theorem FS.few (h : FS lo w fb n v adj w0) {x b : Nat} {l : List Nat} (hl : Rd adj (x + 1) b l) (hx : x < n) : l.length ≤ n := by
  have := List.Nodup.length_le_of_subset (l₂ := (List.range n).map (· + 1)) hl.nd (fun z hz => by
    obtain ⟨h1, h2⟩ := h.road_le hl hx z hz
    exact List.mem_map.2 ⟨z - 1, List.mem_range.2 (by omega), by omega⟩)
  simpa using this
end

end Go.Proofs.YtnkgpjjlgbggcaaDoor
