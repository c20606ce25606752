/- 'grow', walked. -/
import Derived.Test.YtnlbpjppkfenkaaSort9
import Derived.Test.YtnlbpjppkfenkaaCheck9
namespace Go.Proofs.Ytnlbpjppkfenkaa
open Go.RowKit Go.Sort
set_option linter.unusedVariables false

theorem Cmps.more {g m : Nat} {cb : Array Value} {cf : Nat → Nat → Int} {w w' : World} (h : Cmps g cb m cf w) (hb : Below w.heap.size w w') : Cmps g cb m cf w' :=
  fun y hy a b ha hb' => h y (hb.trans (hy.mono hb.size)) a b ha hb'

/-- Edges whose ends are vertices, as numbers. -/
theorem Okr.nat {n : Int} {l : List Ed} (h : Okr n l) {i : Nat} (hi : i < l.length) : l[i]? = some ⟨(eA l i : Int), (eB l i : Int), eW l i⟩ ∧ (eA l i : Int) < n ∧ (eB l i : Int) < n := by
  obtain ⟨q, hq⟩ : ∃ q, l[i]? = some q := ⟨_, List.getElem?_eq_getElem hi⟩
  obtain ⟨⟨h1, h2⟩, h3, h4⟩ := h q (List.mem_of_getElem? hq)
  have e1 : (eA l i : Int) = q.a := by unfold eA; rw [hq]; simp; omega
  have e2 : (eB l i : Int) = q.b := by unfold eB; rw [hq]; simp; omega
  have e3 : eW l i = q.w := by unfold eW; rw [hq]; rfl
  rw [e1, e2, e3]
  exact ⟨hq, h2, h4⟩

theorem Wr.at {l : List Ed} (h : Wr l) (i : Nat) : -2147483648 ≤ eW l i ∧ eW l i ≤ 2147483647 := by
  cases hq : l[i]? with
  | none => unfold eW; rw [hq]; simp
  | some q =>
    have := h q (List.mem_of_getElem? hq)
    unfold eW; rw [hq]
    exact this

theorem wsum_bound {W : Nat → Int} (h : ∀ i, -2147483648 ≤ W i ∧ W i ≤ 2147483647) : ∀ is : List Nat, -(2147483648 * (is.length : Int)) ≤ wsum W is ∧ wsum W is ≤ 2147483648 * (is.length : Int)
  | [] => by simp [wsum]
  | i :: is => by
    have ih := wsum_bound h is
    have := h i
    unfold wsum at *
    simp only [List.map_cons, List.sum_cons, List.length_cons]
    omega

theorem GA.inside {w : World} {gb n : Nat} {hs : List (Nat → Nat)} {O : Nat → Prop} (h : GA w gb n hs O) : GA w gb n hs (fun k => O k ∧ k < w.heap.size) := by
  obtain ⟨mv, jv, K, T, js, h1, h2, h3⟩ := h.st
  exact ⟨mv, jv, K, T, js, h1, h2, fun k hk => ⟨h3 k hk, h1.olt hk⟩⟩

/-- Where the loop of 'grow' stands. -/
structure GS (w : World) (H gb N blk mb m : Nat) (A B : Nat → Nat) (W : Nat → Int) (so : List Nat) (j : Nat) (S : Int) (wr : World) : Prop where
  ga : ∃ fs O, GA wr gb N (jl A B (fun x => x) (so.take j) :: fs) O ∧ ∀ k, O k → (k = gb ∨ H ≤ k) ∧ k < wr.heap.size
  ms : wr.ownsRow w.heap.size 4 1 (.slice (some ⟨mb, 0, none⟩) m m) m (bl m (fun i => decide (i ∈ kr A B (fun x => x) (so.take j))))
  pl : ∀ (k x : Nat), so[k]? = some x → wr.cell? ⟨blk, k, none⟩ = some (.int .i64 (x : Int))
  bel : Below w.heap.size w wr
  hs : H ≤ wr.heap.size
  sum : S = wsum W (kr A B (fun x => x) (so.take j))

section
variable {w : World} {H gb N blk mb m j : Nat} {A B : Nat → Nat} {W : Nat → Int} {so : List Nat} {S : Int} {wr : World}

theorem GS.more (h : GS w H gb N blk mb m A B W so j S wr) {w' : World} (hb : Below wr.heap.size wr w') : GS w H gb N blk mb m A B W so j S w' := by
  obtain ⟨fs, O, h1, h2⟩ := h.ga
  exact ⟨⟨fs, O, h1.more hb, fun k hk => ⟨(h2 k hk).1, Nat.lt_of_lt_of_le (h2 k hk).2 hb.size⟩⟩, own_more h.ms hb, fun k x hx => (hb.cell (World.block_lt_of_cell? _ _ (h.pl k x hx))).trans (h.pl k x hx), h.bel.trans (hb.mono h.bel.size), Nat.le_trans h.hs hb.size, h.sum⟩

theorem jl_next {f : Nat → Nat} {i : Nat} (hi : so[j]? = some i) : jl A B f (so.take (j + 1)) = jn (jl A B f (so.take j)) (A i) (B i) := by
  rw [take_next hi, jl_append]; rfl

theorem kr_same {f : Nat → Nat} {i : Nat} (hi : so[j]? = some i) (he : jl A B f (so.take j) (A i) = jl A B f (so.take j) (B i)) : kr A B f (so.take (j + 1)) = kr A B f (so.take j) := by
  rw [take_next hi, kr_append]
  unfold kr
  rw [if_pos he]
  simp [kr]

theorem kr_new {f : Nat → Nat} {i : Nat} (hi : so[j]? = some i) (he : jl A B f (so.take j) (A i) ≠ jl A B f (so.take j) (B i)) : kr A B f (so.take (j + 1)) = kr A B f (so.take j) ++ [i] := by
  rw [take_next hi, kr_append]
  conv => lhs; arg 2; unfold kr
  rw [if_neg he]
  rfl

theorem GS.join (h : GS w H gb N blk mb m A B W so j S wr) {y : World} (hy : Below wr.heap.size wr y) (h1 : gb ≠ blk) (h2 : gb ≠ mb) (h3 : blk < H) (h4 : mb < H) (h5 : w.heap.size ≤ gb) (h0 : w.heap.size ≤ H) (h6 : blk ≠ mb) {i : Nat} (hi : so[j]? = some i) (ha : A i < N) (hb : B i < N) (him : i < m) :
    Calls Try.prog 22 #[.pointer (some ⟨gb, 0, none⟩), .int .i64 (A i : Int), .int .i64 (B i : Int)] y fun e w' => ∃ t : Bool, e = .returned (.tuple #[.bool t, .nilIface]) ∧ (∀ k, wr.heap.size ≤ k → k < y.heap.size → w'.heap[k]? = y.heap[k]?) ∧
      ((t = false ∧ GS w H gb N blk mb m A B W so (j + 1) S w') ∨ (t = true ∧ w'.frozen? ⟨mb, i, none⟩ = false ∧ (∃ u, w'.cell? ⟨mb, i, none⟩ = some u) ∧ GS w H gb N blk mb m A B W so (j + 1) (S + W i) (w'.setCell ⟨mb, i, none⟩ (.bool true)))) := by
  obtain ⟨fs, O, g1, g2⟩ := h.ga
  have hy2 := h.more hy
  refine ((g1.more hy).join (A i) (B i) ha hb).mono ?_
  rintro e w' ⟨rfl, O', k1, k2, k3⟩
  have hnew : ∀ k, wr.heap.size ≤ k → k < y.heap.size → w'.heap[k]? = y.heap[k]? := fun k hk hk2 => k2.block k hk2 (fun ho => by have := (g2 k ho).2; omega)
  replace k1 := k1.inside
  have hO' : ∀ k, (O' k ∧ k < w'.heap.size) → (k = gb ∨ H ≤ k) ∧ k < w'.heap.size := fun k hk => by
    refine ⟨?_, hk.2⟩
    rcases k3 k hk.1 with q | q
    · exact (g2 k q).1
    · exact .inr (Nat.le_trans hy2.hs q)
  have hbel : Below w.heap.size w w' := hy2.bel.trans (k2.below (fun k hk => by rcases (g2 k hk).1 with rfl | q <;> omega) hy2.bel.size)
  have hpl : ∀ (k x : Nat), so[k]? = some x → w'.cell? ⟨blk, k, none⟩ = some (.int .i64 (x : Int)) := fun k x hx => k2.cell (hy2.pl k x hx) (fun ho => by rcases (g2 _ ho).1 with q | q <;> simp only [] at q <;> omega)
  have hmk : w'.ownsRow w.heap.size 4 1 (.slice (some ⟨mb, 0, none⟩) m m) m (bl m (fun i => decide (i ∈ kr A B (fun x => x) (so.take j)))) := by
    refine ⟨hy2.ms.1, ?_⟩
    rcases hy2.ms.2 with ⟨q, _⟩ | ⟨g, cap, cur, q, r1, r2, r3⟩
    · cases q
    · simp only [Value.slice.injEq, Option.some.injEq, Addr.mk.injEq, and_true, true_and] at q
      obtain ⟨rfl, rfl⟩ := q
      exact .inr ⟨mb, m, cur, rfl, r1, (k2.block mb (Array.getElem?_eq_some_iff.1 r2).1 (fun ho => by rcases (g2 _ ho).1 with q | q <;> omega)).trans r2, r3⟩
  have hjn := jl_next (A := A) (B := B) (f := fun x => x) hi
  by_cases he : jl A B (fun x => x) (so.take j) (A i) = jl A B (fun x => x) (so.take j) (B i)
  · refine ⟨false, by rw [decide_eq_true he]; rfl, hnew, .inl ⟨rfl, ?_⟩⟩
    have hkr := kr_same (f := fun x => x) hi he
    refine ⟨⟨fs, _, ?_, hO'⟩, by rw [hkr]; exact hmk, hpl, hbel, Nat.le_trans hy2.hs k2.size, by rw [hkr]; exact h.sum⟩
    rw [hjn, jn_same he]
    unfold stepH at k1
    rw [if_pos he] at k1
    exact k1
  · refine ⟨true, by rw [decide_eq_false he]; rfl, hnew, .inr ⟨rfl, hmk.frozenAt i, ⟨_, (hmk.cellAt i (by omega)).trans (bl_get him)⟩, ?_⟩⟩
    have hkr := kr_new (f := fun x => x) hi he
    obtain ⟨s1, s2⟩ := hmk.stored i (.bool true)
    rw [bl_set] at s1
    have hon : bl m (on (fun i => decide (i ∈ kr A B (fun x => x) (so.take j))) i) = bl m (fun i => decide (i ∈ kr A B (fun x => x) (so.take (j + 1)))) := by
      refine bl_congr (fun x _ => ?_)
      rw [hkr]
      unfold on
      by_cases e : x = i
      · subst e; simp
      · simp [e]
    rw [hon] at s1
    have hset : Turned (fun k => k = mb) w' (w'.setCell ⟨mb, i, none⟩ (.bool true)) := Turned.setCell (S := fun k => k = mb) (p := ⟨mb, i, none⟩) (Turned.refl _ _) rfl _
    refine ⟨⟨jl A B (fun x => x) (so.take j) :: fs, _, ?_, fun k hk => ⟨(hO' k hk).1, Nat.lt_of_lt_of_le hk.2 hset.size⟩⟩, s1, fun k x hx => ?_, below_row hbel (Nat.le_refl _) hmk (Nat.le_refl _) s2, Nat.le_trans hy2.hs (Nat.le_trans k2.size hset.size), ?_⟩
    · rw [hjn]
      unfold stepH at k1
      rw [if_neg he] at k1
      exact k1.of hset (fun k _ hk e => by rcases (hO' k hk).1 with q | q <;> omega)
    · exact hset.cell (hpl k x hx) (fun e => h6 e)
    · rw [hkr, wsum_append, h.sum]
      simp [wsum]
end

end Go.Proofs.Ytnlbpjppkfenkaa
