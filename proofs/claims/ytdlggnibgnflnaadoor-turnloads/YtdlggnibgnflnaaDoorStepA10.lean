/- append of a slice to be read onto a row of the call's own, as one step of a region that draws: nil or not. -/
import Derived.Test.YtdlggnibgnflnaaDoorPut10
namespace Go.Proofs.YtdlggnibgnflnaaDoor
open Go.RowKit
set_option linter.unusedVariables false

theorem step_app {ops : Array Oper} {o : Oper} {a : Act} {w : World} {K : Act → World → Prop} {Q : Exit → Act → World → Prop} {E : Prop}
    (hg : o.guard = none) (s x : Operand) (hop : o.op = Op.call { callee := Callee.builtin Builtin.append, args := #[s, x], argTypes := #[53, 53] })
    (base : Nat) (hb : base ≤ w.heap.size) (v : Value) (n : Nat) (xs : List Value) (hs : a.eval s = v) (hown : w.ownsRow base 3 1 v n xs) (y : Value) (l : List Nat) (hx : a.eval x = y) (hy : NL w y l) (hn : n + l.length ≤ 100000)
    (hK : ∀ v' w', w'.ownsRow base 3 1 v' (n + l.length) (xs ++ ncs l) → w.grownBy w' v.ownBlock → K (a.put o.dst v') w') :
    if Region.wanted o (yielded ops a.tmps) = true then Oper.wp Tryd.prog o a w K Q else E := by
  obtain ⟨j0, hjf, hy0, hy1, hy2⟩ := info_parts infoInt
  obtain ⟨ad, m, cap, rfl, hlen, ⟨hmc, hnil, hty⟩, hcap, hcell⟩ := hy
  cases ad with
  | none =>
    obtain rfl : cap = 0 := hnil rfl
    obtain rfl : m = 0 := by omega
    obtain rfl : l = [] := List.eq_nil_of_length_eq_zero hlen
    refine step_append_none hg s x 53 hop base 3 j0 1 Tryd.underlying53 hjf v n xs hs hown hx ?_
    exact hK v w (by simpa [ncs] using hown) ⟨rfl, rfl, rfl, Nat.le_refl _, fun _ _ _ => rfl⟩
  | some aa =>
    obtain ⟨g, of, rfl, _⟩ := hty _ rfl
    refine step_append_own hg s x 53 hop base 3 j0 _ 1 8 Tryd.underlying53 hjf hy0 hy1 hy2 rfl (by decide) v n xs hs hown ⟨g, of, none⟩ m cap (ncs l) hx (by rw [ncs_length]; omega) (fun j u hu => ?_) (ncs_one _) (by unfold maxLen; omega) (by omega) hb ?_
    · rw [add_zero]
      unfold ncs at hu
      rw [List.getElem?_map, Option.map_eq_some_iff] at hu
      obtain ⟨z, hz, rfl⟩ := hu
      obtain ⟨b', o', e', c'⟩ := hcell j z hz
      cases e'
      exact c'
    · intro v1 x1 ho hgr
      rw [← hlen] at ho
      exact hK v1 x1 ho hgr

/-- A slice of one number, new. -/
theorem nl_lit (w : World) (d : Nat) : NL (w.alloc (.cells #[.int .i64 (d : Int)] 3)) (.slice (some ⟨w.heap.size, 0, none⟩) 1 1) [d] := by
  have hn := heap_alloc_new w (.cells #[.int .i64 (d : Int)] 3)
  refine ⟨_, 1, 1, rfl, rfl, ⟨Nat.le_refl _, fun e => absurd e (by simp), fun a e => ?_⟩, by unfold maxLen; omega, fun j x hx => ?_⟩
  · cases e
    exact ⟨_, _, rfl, _, _, hn⟩
  · cases j with
    | zero =>
      simp at hx
      subst hx
      refine ⟨_, _, rfl, ?_⟩
      unfold World.cell?
      rw [hn]
      rfl
    | succ j => simp at hx

theorem nr_cell {w : World} {b o u : Nat} {cap V : Nat} {R : Nat → List Nat} (h : NR w (.slice (some ⟨b, o, none⟩) V cap) V R) : Ty w b 53 := by
  obtain ⟨ad, c, e, _, ⟨_, h3⟩, _⟩ := h
  cases e
  obtain ⟨b', o', e', ht⟩ := h3 _ rfl
  cases e'
  exact ht

end Go.Proofs.YtdlggnibgnflnaaDoor
