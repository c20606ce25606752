/- The document's Find, Check, walked. The document's Check of a corner, walked. The document's With, walked. The document's Next, walked. The document's Round, walked. The document's Darts, walked. -/
import Derived.Test.YtboafgimjadboabGreatDoorBmem
namespace Go.Proofs.YtboafgimjadboabGreatDoor
open Go.RowKit
set_option linter.unusedVariables false

/-- Where a dart stands; (-1, -1): nowhere. -/
def At (V : Nat) (R : Nat → List Nat) (d : Int) (r s : Int) : Prop := (r = -1 ∧ s = -1 ∧ ∀ u, u < V → ∀ x, x ∈ R u → (x : Int) ≠ d) ∨ ∃ u i : Nat, u < V ∧ r = (u : Int) ∧ s = (i : Int) ∧ ∃ x, (R u)[i]? = some x ∧ (x : Int) = d



end Go.Proofs.YtboafgimjadboabGreatDoor

namespace Go.Proofs.YtboafgimjadboabGreatDoor
open Go.RowKit
set_option linter.unusedVariables false

/-- There is such a corner. -/
def Co (V : Nat) (R : Nat → List Nat) (v b : Int) : Prop := ∃ u : Nat, v = (u : Int) ∧ u < V ∧ ((b = -1 ∧ R u = []) ∨ ∃ d : Nat, b = (d : Int) ∧ d ∈ R u)

theorem At.found {V E : Nat} {R : Nat → List Nat} (h : Tn V E R) {u d : Nat} (hu : u < V) (hd : d ∈ R u) {r s : Int} (ha : At V R (d : Int) r s) : r = (u : Int) ∧ ∃ i : Nat, s = (i : Int) ∧ (R u)[i]? = some d := by
  rcases ha with ⟨_, _, h3⟩ | ⟨u', i, hu', rfl, rfl, x, hx, e⟩
  · exact absurd rfl (h3 u hu d hd)
  · obtain rfl : x = d := by omega
    obtain rfl := h.one u' u x hu' hu (List.mem_of_getElem? hx) hd
    exact ⟨rfl, i, rfl, hx⟩

theorem At.none {V : Nat} {R : Nat → List Nat} {d : Int} (hd : ∀ u, u < V → ∀ x, x ∈ R u → (x : Int) ≠ d) {r s : Int} (ha : At V R d r s) : r = -1 ∧ s = -1 := by
  rcases ha with ⟨h1, h2, _⟩ | ⟨u', i, hu', _, _, x, hx, e⟩
  · exact ⟨h1, h2⟩
  · exact absurd e (hd u' hu' x (List.mem_of_getElem? hx))





end Go.Proofs.YtboafgimjadboabGreatDoor

namespace Go.Proofs.YtboafgimjadboabGreatDoor
open Go.RowKit
set_option linter.unusedVariables false

theorem below_row {w0 w w' : World} {B base n size : Nat} {e : TypeId} {v : Value} {xs : List Value} (hb : Below B w0 w) (hlo : B ≤ w0.heap.size) (ho : w.ownsRow base e size v n xs) (hB : B ≤ base) (hg : w.grownBy w' v.ownBlock) : Below B w0 w' :=
  hb.grown hg (Nat.le_trans hlo hb.size) (fun k hk => Nat.le_trans hB (ho.lt k hk).1)

theorem add_zero (b o j : Nat) : (⟨b, o, none⟩ : Addr).add j = ⟨b, o + j, none⟩ := by unfold Addr.add; split <;> simp_all

/-- The values that a slice of slices holds. -/
theorem NR.vals {w : World} {v : Value} {V : Nat} {R : Nat → List Nat} (h : NR w v V R) (hV : 0 < V) : ∃ b o cap, ∃ us : List Value, v = .slice (some ⟨b, o, none⟩) V cap ∧ V ≤ cap ∧ cap ≤ maxLen ∧ us.length = V ∧ (∀ (k : Nat) x, us[k]? = some x → w.cell? ⟨b, o + k, none⟩ = some x ∧ NL w x (R k)) := by
  obtain ⟨ad, cap, h1, h2, h3, h4⟩ := h
  obtain ⟨b, o, _, e0, _⟩ := h4 0 hV
  have hx : ∀ u, ∃ x, u < V → w.cell? ⟨b, o + u, none⟩ = some x ∧ NL w x (R u) := fun u => by
    by_cases hu : u < V
    · obtain ⟨b', o', x, e1, e2, e3⟩ := h4 u hu
      rw [e0] at e1
      simp only [Option.some.injEq, Addr.mk.injEq, and_true] at e1
      obtain ⟨rfl, rfl⟩ := e1
      exact ⟨x, fun _ => ⟨e2, e3⟩⟩
    · exact ⟨.nilIface, fun hu' => absurd hu' hu⟩
  obtain ⟨X, hX⟩ : ∃ X : Nat → Value, ∀ u, u < V → w.cell? ⟨b, o + u, none⟩ = some (X u) ∧ NL w (X u) (R u) := ⟨fun u => (hx u).choose, fun u => (hx u).choose_spec⟩
  refine ⟨b, o, cap, (List.range V).map X, by rw [h1, e0], h2, h3.1, by simp, fun k x hk => ?_⟩
  have hkV : k < V := by have := (List.getElem?_eq_some_iff.1 hk).1; simpa using this
  simp [hkV] at hk
  subst hk
  exact hX k hkV

theorem blk2 {w : World} {g : Nat} {t : TypeId} {x y : Value} (h : w.heap[g]? = some (.cells #[x, y] t (0, 0))) : w.cell? ⟨g, 0, none⟩ = some x ∧ w.cell? ⟨g, 1, none⟩ = some y ∧ w.frozen? ⟨g, 0, none⟩ = false ∧ w.frozen? ⟨g, 1, none⟩ = false := by
  unfold World.cell? World.frozen?
  rw [h]
  exact ⟨rfl, rfl, rfl, rfl⟩

theorem set2_block {w : World} {g : Nat} {t : TypeId} {u v : Value} (h : w.heap[g]? = some (.cells #[u, v] t (0, 0))) (a b : Value) : ((w.setCell ⟨g, 0, none⟩ a).setCell ⟨g, 1, none⟩ b).heap[g]? = some (.cells #[a, b] t (0, 0)) := by
  unfold World.setCell
  rw [Array.getElem?_modify, if_pos rfl, Array.getElem?_modify, if_pos rfl, h]
  simp

theorem below2 {B : Nat} {a w : World} {g : Nat} (h : Below B a w) (hg : B ≤ g) (x y : Value) : Below B a ((w.setCell ⟨g, 0, none⟩ x).setCell ⟨g, 1, none⟩ y) := by
  refine h.trans ⟨rfl, rfl, rfl, by simp [World.setCell], fun k hk => ?_⟩
  rw [Below.heap_setCell _ _ _ _ (by show k ≠ g; omega), Below.heap_setCell _ _ _ _ (by show k ≠ g; omega)]

theorem NL.one {w : World} {v : Value} {l : List Nat} (h : NL w v l) : v.oneCell' = true := by
  obtain ⟨ad, n, cap, rfl, _⟩ := h
  rfl



end Go.Proofs.YtboafgimjadboabGreatDoor

namespace Go.Proofs.YtboafgimjadboabGreatDoor
open Go.RowKit
set_option linter.unusedVariables false

theorem pv_at {l : List Nat} {x i : Nat} (hn : l.Nodup) (hi : l[i]? = some x) : l[(i + l.length - 1) % l.length]? = some (pv l x) := by
  obtain ⟨hlt, hxe⟩ := List.getElem?_eq_some_iff.1 hi
  have hk : (i + l.length - 1) % l.length < l.length := Nat.mod_lt _ (by omega)
  have hy : l[(i + l.length - 1) % l.length]? = some l[(i + l.length - 1) % l.length] := List.getElem?_eq_getElem hk
  have := nx_at hn hy
  rw [Nat.mod_add_mod, show i + l.length - 1 + 1 = i + l.length from by omega, Nat.add_mod_right, Nat.mod_eq_of_lt hlt, hi] at this
  rw [hy, Option.some.inj this, pv_nx hn (List.mem_of_getElem? hy)]

/-- So many steps on, by places: what the document reckons. -/
theorem step_at (n i : Nat) (by' : Int) (hn : 0 < n) (hi : i < n) (hb : by' = 1 ∨ by' = -1) (hs : n ≤ 1000) : ∃ k : Nat, k < n ∧ (IntKind.i64.wrap (IntKind.i64.wrap ((i : Int) + by') + (n : Int))).tmod (n : Int) = (k : Int) ∧ (by' = 1 → k = (i + 1) % n) ∧ (by' = -1 → k = (i + n - 1) % n) := by
  have w1 : IntKind.i64.wrap ((i : Int) + by') = (i : Int) + by' := by rw [IntKind.wrap_i64]; omega
  have w2 : IntKind.i64.wrap ((i : Int) + by' + (n : Int)) = (i : Int) + by' + (n : Int) := by rw [IntKind.wrap_i64]; omega
  rw [w1, w2, Int.tmod_eq_emod_of_nonneg (by omega)]
  rcases hb with rfl | rfl
  · refine ⟨(i + 1) % n, Nat.mod_lt _ hn, ?_, fun _ => rfl, fun h => by omega⟩
    rw [show (i : Int) + 1 + (n : Int) = ((i + 1 + n : Nat) : Int) from by omega, ← Int.natCast_emod, Nat.add_mod_right]
  · refine ⟨(i + n - 1) % n, Nat.mod_lt _ hn, ?_, fun h => by omega, fun _ => rfl⟩
    rw [show (i : Int) + -1 + (n : Int) = ((i + n - 1 : Nat) : Int) from by omega, ← Int.natCast_emod]



end Go.Proofs.YtboafgimjadboabGreatDoor

namespace Go.Proofs.YtboafgimjadboabGreatDoor
open Go.RowKit
set_option linter.unusedVariables false

/-- Numbers as cells. -/
def ncs (l : List Nat) : List Value := l.map (fun i : Nat => .int .i64 (i : Int))
@[simp] theorem ncs_length (l : List Nat) : (ncs l).length = l.length := by simp [ncs]
theorem ncs_append (a b : List Nat) : ncs (a ++ b) = ncs a ++ ncs b := by simp [ncs]

/-- A row of one's own is to be read. -/
theorem nl_of {base : Nat} {w : World} {v : Value} {l : List Nat} (h : w.ownsRow base 3 1 v l.length (ncs l)) : NL w v l := by
  rcases h.2 with ⟨rfl, h0⟩ | ⟨g, cap, cur, rfl, _, hg, h1, h2, _⟩
  · have : l = [] := List.eq_nil_of_length_eq_zero h0
    subst this
    exact ⟨none, 0, 0, rfl, rfl, ⟨Nat.le_refl _, fun _ => rfl, fun a e => by cases e⟩, Nat.zero_le _, fun j x hx => by simp at hx⟩
  · refine ⟨some ⟨g, 0, none⟩, l.length, cap, rfl, rfl, ⟨h1, (fun e => by cases e), fun a e => ⟨g, 0, (Option.some.inj e).symm, _, _, hg⟩⟩, h2, fun j x hx => ⟨g, 0, rfl, ?_⟩⟩
    have hj := (List.getElem?_eq_some_iff.1 hx).1
    rw [Nat.zero_add, h.cellAt j (by omega)]
    simp [ncs, hx]

theorem one_new (w : World) (u : Value) (t : TypeId) : ∀ j x, ([u] : List Value)[j]? = some x → (w.alloc (.cells #[u] t)).cell? ((⟨w.heap.size, 0, none⟩ : Addr).add j) = some x := by
  intro j x hx
  rw [add_zero, Nat.zero_add]
  have hn := heap_alloc_new w (.cells #[u] t)
  unfold World.cell?
  rw [hn]
  simpa using hx

/-- The least of the first ones. -/
def Lo (l : List Nat) (j a : Nat) : Prop := (j = 0 ∧ a = 0) ∨ ∃ x, a < j ∧ l[a]? = some x ∧ ∀ (k y : Nat), k < j → l[k]? = some y → x ≤ y

theorem Lo.least {l : List Nat} {a : Nat} (h : Lo l l.length a) (hne : l ≠ []) : l[a]? = some (least0 l) := by
  rcases h with ⟨h0, _⟩ | ⟨x, h1, h2, h3⟩
  · exact absurd (List.eq_nil_of_length_eq_zero h0) hne
  · obtain ⟨k, hk⟩ := List.getElem?_of_mem (least0_mem l hne)
    have q1 := h3 k _ (List.getElem?_eq_some_iff.1 hk).1 hk
    have q2 := least0_le l x (List.mem_of_getElem? h2)
    rw [h2]
    congr 1
    omega



end Go.Proofs.YtboafgimjadboabGreatDoor

namespace Go.Proofs.YtboafgimjadboabGreatDoor
open Go.RowKit
set_option linter.unusedVariables false

open Classical in
/-- The darts below k that stand. -/
noncomputable def laid (V : Nat) (R : Nat → List Nat) : Nat → List Nat
  | 0 => []
  | k + 1 => laid V R k ++ (if In V R k then [k] else [])

theorem laid_yes {V : Nat} {R : Nat → List Nat} {k : Nat} (h : In V R k) : laid V R (k + 1) = laid V R k ++ [k] := by rw [laid, if_pos h]
theorem laid_no {V : Nat} {R : Nat → List Nat} {k : Nat} (h : ¬ In V R k) : laid V R (k + 1) = laid V R k := by rw [laid, if_neg h, List.append_nil]
theorem laid_len (V : Nat) (R : Nat → List Nat) : ∀ k, (laid V R k).length ≤ k
  | 0 => by simp [laid]
  | k + 1 => by
    by_cases h : In V R k
    · rw [laid_yes h]; have := laid_len V R k; simp; omega
    · rw [laid_no h]; have := laid_len V R k; omega
theorem mem_laid {V : Nat} {R : Nat → List Nat} : ∀ {k x : Nat}, x ∈ laid V R k ↔ x < k ∧ In V R x
  | 0, x => by simp [laid]
  | k + 1, x => by
    by_cases h : In V R k
    · rw [laid_yes h, List.mem_append, mem_laid, List.mem_singleton]
      constructor
      · rintro (⟨h1, h2⟩ | rfl)
        · exact ⟨by omega, h2⟩
        · exact ⟨by omega, h⟩
      · rintro ⟨h1, h2⟩
        by_cases e : x = k
        · exact .inr e
        · exact .inl ⟨by omega, h2⟩
    · rw [laid_no h, mem_laid]
      constructor
      · rintro ⟨h1, h2⟩; exact ⟨by omega, h2⟩
      · rintro ⟨h1, h2⟩
        refine ⟨?_, h2⟩
        by_cases e : x = k
        · subst e; exact absurd h2 h
        · omega

theorem At.in {V : Nat} {R : Nat → List Nat} {d : Nat} {r s : Int} (h : At V R (d : Int) r s) : (0 ≤ r ∧ In V R d) ∨ (r = -1 ∧ ¬ In V R d) := by
  rcases h with ⟨h1, _, h3⟩ | ⟨u, i, h1, h2, _, x, h4, h5⟩
  · exact .inr ⟨h1, fun ⟨v, h4, h5⟩ => h3 v h4 d h5 rfl⟩
  · refine .inl ⟨by omega, u, h1, ?_⟩
    have : x = d := by omega
    subst this
    exact List.mem_of_getElem? h4

/-- Below: the row stays. -/
theorem ownsRow_below {w w' : World} {base e size n : Nat} {v : Value} {xs : List Value} (h : w.ownsRow base e size v n xs) (hb : Below w.heap.size w w') : w'.ownsRow base e size v n xs := by
  refine ⟨h.1, ?_⟩
  rcases h.2 with h2 | ⟨g, cap, cur, hv, hg, hh, r⟩
  · exact .inl h2
  · refine .inr ⟨g, cap, cur, hv, hg, ?_, r⟩
    rw [hb.block g (Array.getElem?_eq_some_iff.1 hh).1]
    exact hh



end Go.Proofs.YtboafgimjadboabGreatDoor
