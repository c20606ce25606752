/- Groups in memory; what a call may have turned. -/
import Derived.WalkKit
import Derived.WalkSpells
import Derived.WalkLawsBesides
import Derived.OwnWalk
import Derived.Laws.OwnMore
import Derived.Test.YtnlbpjppkfenkaaPure7
namespace Go.Proofs.Ytnlbpjppkfenkaa
open Go.RowKit
set_option linter.unusedVariables false

theorem hid {p : Prop} (h : p) : Hid p := h

theorem ret_int {k : IntKind} {a b : Int} (h : a = b) : Ending.returned (.int k a) = .returned (.int k b) := by rw [h]

/-- Outside the blocks of S all is as it was; new blocks may have come. -/
structure Turned (S : Nat → Prop) (w w' : World) : Prop where
  os : w'.os = w.os
  tape : w'.tape = w.tape
  output : w'.output = w.output
  size : w.heap.size ≤ w'.heap.size
  block : ∀ k, k < w.heap.size → ¬ S k → w'.heap[k]? = w.heap[k]?

theorem Turned.refl (S : Nat → Prop) (w : World) : Turned S w w := ⟨rfl, rfl, rfl, Nat.le_refl _, fun _ _ _ => rfl⟩

theorem Turned.trans {S : Nat → Prop} {a b c : World} (h : Turned S a b) (k : Turned S b c) : Turned S a c :=
  ⟨k.os.trans h.os, k.tape.trans h.tape, k.output.trans h.output, Nat.le_trans h.size k.size, fun i hi h1 => (k.block i (Nat.lt_of_lt_of_le hi h.size) h1).trans (h.block i hi h1)⟩

/-- What came new in the meantime may turn too. -/
theorem Turned.then {S S' : Nat → Prop} {a b c : World} (h : Turned S a b) (k : Turned S' b c) (hs : ∀ i, i < a.heap.size → S' i → S i) : Turned S a c :=
  ⟨k.os.trans h.os, k.tape.trans h.tape, k.output.trans h.output, Nat.le_trans h.size k.size, fun i hi h1 => (k.block i (Nat.lt_of_lt_of_le hi h.size) (fun e => h1 (hs i hi e))).trans (h.block i hi h1)⟩

theorem Turned.mono {S S' : Nat → Prop} {w w' : World} (h : Turned S w w') (hs : ∀ k, S k → S' k) : Turned S' w w' :=
  ⟨h.os, h.tape, h.output, h.size, fun k hk ho => h.block k hk (fun e => ho (hs k e))⟩

theorem Turned.ofBelow {w w' : World} (h : Below w.heap.size w w') (S : Nat → Prop) : Turned S w w' := ⟨h.os, h.tape, h.output, h.size, fun k hk _ => h.block k hk⟩

theorem Turned.ofGrown {S : Nat → Prop} {w w' : World} {row : Option Nat} (h : w.grownBy w' row) (hs : ∀ k, row = some k → S k) : Turned S w w' :=
  ⟨h.os, h.tape, h.output, h.size, fun k hk ho => h.block k hk (fun e => ho (hs k e.symm))⟩

theorem Turned.below {S : Nat → Prop} {B : Nat} {w w' : World} (h : Turned S w w') (h1 : ∀ k, S k → B ≤ k) (h2 : B ≤ w.heap.size) : Below B w w' :=
  ⟨h.os, h.tape, h.output, h.size, fun k hk => h.block k (by omega) (fun e => by have := h1 k e; omega)⟩

theorem Turned.drew {S : Nat → Prop} {a w : World} (h : Turned S a w) : Turned S a w.drew := ⟨h.os, h.tape, h.output, h.size, h.block⟩

theorem Turned.setCell {S : Nat → Prop} {a w : World} (h : Turned S a w) {p : Addr} (hp : S p.block) (u : Value) : Turned S a (w.setCell p u) :=
  h.trans ⟨rfl, rfl, rfl, by simp [World.setCell], fun k hk ho => Below.heap_setCell _ _ _ _ (fun e => ho (e ▸ hp))⟩

theorem Turned.alloc {S : Nat → Prop} {a w : World} (h : Turned S a w) (o : Obj) : Turned S a (w.alloc o) :=
  h.trans ⟨rfl, rfl, rfl, by simp, fun k hk _ => Below.heap_alloc _ _ _ hk⟩

theorem Turned.cell {S : Nat → Prop} {w w' : World} (h : Turned S w w') {p : Addr} {v : Value} (hc : w.cell? p = some v) (ho : ¬ S p.block) : w'.cell? p = some v :=
  (World.cell?_of_block (h.block p.block (World.block_lt_of_cell? w p hc) ho)).trans hc

/-- A member, as a value; its cells. -/
abbrev mbv (m : Mb) : Value := .agg #[.int .i32 (m.up : Int), .int .i32 (m.size : Int), .int .i32 (m.least : Int)]
def nc (m : Mb) : List Value := [.int .i32 (m.up : Int), .int .i32 (m.size : Int), .int .i32 (m.least : Int)]

def flat (T : Tb) : Nat → List Value
  | 0 => []
  | N + 1 => flat T N ++ nc (T N)

theorem flat_length (T : Tb) : ∀ N, (flat T N).length = N * 3
  | 0 => rfl
  | N + 1 => by simp [flat, flat_length T N, nc]; omega

theorem flat_congr {T T' : Tb} : ∀ {N : Nat}, (∀ i, i < N → T i = T' i) → flat T N = flat T' N
  | 0, _ => rfl
  | N + 1, h => by simp only [flat]; rw [flat_congr (fun i hi => h i (by omega)), h N (by omega)]

theorem flat_get (T : Tb) : ∀ (N i k : Nat), i < N → k < 3 → (flat T N)[i * 3 + k]? = (nc (T i))[k]?
  | 0, i, k, hi, _ => by omega
  | N + 1, i, k, hi, hk => by
    unfold flat
    by_cases e : i = N
    · subst e
      rw [List.getElem?_append_right (by rw [flat_length]; omega), flat_length]
      congr 1; omega
    · rw [List.getElem?_append_left (by rw [flat_length]; omega)]
      exact flat_get T N i k (by omega) hk

theorem flat_set {T : Tb} {i k : Nat} {u : Value} {n' : Mb} (hk : k < 3) (hn : nc n' = (nc (T i)).set k u) : ∀ (N : Nat), i < N → (flat T N).set (i * 3 + k) u = flat (upd T i n') N
  | 0, hi => by omega
  | N + 1, hi => by
    unfold flat
    by_cases e : i = N
    · subst e
      rw [List.set_append_right _ _ (by rw [flat_length]; omega), flat_length, upd_same, hn, flat_congr (T := upd T i n') (T' := T) (fun j hj => upd_ne (by omega))]
      congr 2; omega
    · rw [List.set_append_left _ _ (by rw [flat_length]; omega), flat_set hk hn N (by omega), upd_ne (by omega)]

/-- The joins' cells. -/
def jcs : List (Nat × Nat) → List Value
  | [] => []
  | (u, l) :: js => .int .i32 (u : Int) :: .int .i32 (l : Int) :: jcs js

theorem jcs_length : ∀ js, (jcs js).length = js.length * 2
  | [] => rfl
  | (u, l) :: js => by simp [jcs, jcs_length js]; omega

theorem jcs_append : ∀ (a b : List (Nat × Nat)), jcs (a ++ b) = jcs a ++ jcs b
  | [], b => rfl
  | (u, l) :: a, b => by simp [jcs, jcs_append a b]

/-- A row that is one's own, cut short. -/
theorem own_take {w : World} {base n cap m : Nat} {e : TypeId} {size : Nat} {g : Nat} {xs : List Value} (h : w.ownsRow base e size (.slice (some ⟨g, 0, none⟩) n cap) n xs) (hm : m ≤ n) : w.ownsRow base e size (.slice (some ⟨g, 0, none⟩) m cap) m (xs.take (m * size)) := by
  obtain ⟨hl, h2⟩ := h
  have hms : m * size ≤ n * size := Nat.mul_le_mul_right _ hm
  rcases h2 with ⟨e1, _⟩ | ⟨g', cap', cur, e1, hb, hg, h3, h4, h5, h6⟩
  · cases e1
  · simp only [Value.slice.injEq, Option.some.injEq, Addr.mk.injEq, and_true, true_and] at e1
    obtain ⟨rfl, rfl⟩ := e1
    refine ⟨by rw [List.length_take, hl]; omega, .inr ⟨g, cap, cur, rfl, hb, hg, by omega, h4, h5, ?_⟩⟩
    rw [← h6, List.take_take, Nat.min_eq_left hms]

theorem own_form {w : World} {base n : Nat} {e : TypeId} {size : Nat} {v : Value} {xs : List Value} (h : w.ownsRow base e size v n xs) (hn : 0 < n) : ∃ g cap, v = .slice (some ⟨g, 0, none⟩) n cap ∧ n ≤ cap ∧ cap ≤ maxLen := by
  rcases h.2 with ⟨_, e⟩ | ⟨g, cap, cur, e, _, _, e1, e2, _⟩
  · omega
  · exact ⟨g, cap, e, e1, e2⟩

theorem own_any {w : World} {base n : Nat} {e : TypeId} {size : Nat} {v : Value} {xs : List Value} (h : w.ownsRow base e size v n xs) : ∃ ad cap, v = .slice ad n cap ∧ n ≤ cap ∧ cap ≤ maxLen := by
  rcases h.2 with ⟨e1, e⟩ | ⟨g, cap, cur, e, _, _, e1, e2, _⟩
  · subst e; exact ⟨none, 0, e1, Nat.le_refl _, by unfold maxLen; omega⟩
  · exact ⟨_, cap, e, e1, e2⟩

/-- The Groups at gb: n members, K of them kept, and the joins. -/
structure Gr (w : World) (gb : Nat) (mv jv : Value) (n K : Nat) (T : Tb) (js : List (Nat × Nat)) : Prop where
  self : w.heap[gb]? = some (.cells #[.int .i64 (n : Int), mv, jv] 64 (0, 0))
  mem : w.ownsRow 0 68 3 mv K (flat T K)
  jo : w.ownsRow 0 78 2 jv js.length (jcs js)
  rest : ∀ x, K ≤ x → T x = alone x
  hK : K ≤ n
  hj : js.length < n
  hn : n ≤ 4194304

/-- Its blocks. -/
def own (gb : Nat) (mv jv : Value) (k : Nat) : Prop := k = gb ∨ mv.ownBlock = some k ∨ jv.ownBlock = some k

section
variable {w w' : World} {gb n K : Nat} {mv jv : Value} {T : Tb} {js : List (Nat × Nat)} (h : Gr w gb mv jv n K T js)
include h

theorem Gr.c0 : w.cell? ⟨gb, 0, none⟩ = some (.int .i64 (n : Int)) := by unfold World.cell?; rw [h.self]; simp
theorem Gr.c1 : w.cell? ⟨gb, 1, none⟩ = some mv := by unfold World.cell?; rw [h.self]; simp
theorem Gr.c2 : w.cell? ⟨gb, 2, none⟩ = some jv := by unfold World.cell?; rw [h.self]; simp
theorem Gr.f1 : w.frozen? ⟨gb, 1, none⟩ = false := by unfold World.frozen?; rw [h.self]; simp
theorem Gr.f2 : w.frozen? ⟨gb, 2, none⟩ = false := by unfold World.frozen?; rw [h.self]; simp
theorem Gr.lt : gb < w.heap.size := (Array.getElem?_eq_some_iff.1 h.self).1
theorem Gr.olt {k : Nat} (hk : own gb mv jv k) : k < w.heap.size := by
  rcases hk with rfl | hk | hk
  · exact h.lt
  · exact (h.mem.lt k hk).2
  · exact (h.jo.lt k hk).2

theorem Gr.of {S : Nat → Prop} (ht : Turned S w w') (ho : ∀ k, own gb mv jv k → ¬ S k) : Gr w' gb mv jv n K T js := by
  refine ⟨(ht.block gb h.lt (ho gb (Or.inl rfl))).trans h.self, ?_, ?_, h.rest, h.hK, h.hj, h.hn⟩
  · refine ⟨h.mem.1, ?_⟩
    rcases h.mem.2 with hn | ⟨g, cap, cur, rfl, hb, hgg, rest⟩
    · exact .inl hn
    · exact .inr ⟨g, cap, cur, rfl, hb, (ht.block g (Array.getElem?_eq_some_iff.1 hgg).1 (ho g (Or.inr (Or.inl rfl)))).trans hgg, rest⟩
  · refine ⟨h.jo.1, ?_⟩
    rcases h.jo.2 with hn | ⟨g, cap, cur, rfl, hb, hgg, rest⟩
    · exact .inl hn
    · exact .inr ⟨g, cap, cur, rfl, hb, (ht.block g (Array.getElem?_eq_some_iff.1 hgg).1 (ho g (Or.inr (Or.inr rfl)))).trans hgg, rest⟩

theorem Gr.more (hb : Below w.heap.size w w') : Gr w' gb mv jv n K T js := h.of (Turned.ofBelow hb (fun _ => False)) (fun _ _ e => e)

theorem Gr.mne {k : Nat} (hk : mv.ownBlock = some k) : k ≠ gb ∧ jv.ownBlock ≠ some k := by
  rcases h.mem.2 with ⟨rfl, _⟩ | ⟨g, cap, cur, rfl, hb, hgg, _⟩
  · simp [Value.ownBlock] at hk
  · simp [Value.ownBlock] at hk
    subst hk
    refine ⟨fun e => ?_, fun e => ?_⟩
    · have := h.self
      rw [← e, hgg] at this
      injection this with this
      injection this with _ this
      cases this
    · rcases h.jo.2 with ⟨rfl, _⟩ | ⟨g', cap', cur', rfl, hb', hgg', _⟩
      · simp [Value.ownBlock] at e
      · simp [Value.ownBlock] at e
        subst e
        rw [hgg] at hgg'
        injection hgg' with this
        injection this with _ this
        cases this

theorem Gr.jne {k : Nat} (hk : jv.ownBlock = some k) : k ≠ gb ∧ mv.ownBlock ≠ some k := by
  refine ⟨fun e => ?_, fun e => (h.mne e).2 hk⟩
  rcases h.jo.2 with ⟨rfl, _⟩ | ⟨g, cap, cur, rfl, hb, hgg, _⟩
  · simp [Value.ownBlock] at hk
  · simp [Value.ownBlock] at hk
    subst hk
    have := h.self
    rw [← e, hgg] at this
    injection this with this
    injection this with _ this
    cases this
end

/-- A member's cells, where the row lies. -/
theorem Gr.at {w : World} {gb n K g cap : Nat} {jv : Value} {T : Tb} {js : List (Nat × Nat)} (h : Gr w gb (.slice (some ⟨g, 0, none⟩) K cap) jv n K T js) {i : Nat} (hi : i < K) :
    w.cell? ⟨g, i * 3, none⟩ = some (.int .i32 ((T i).up : Int)) ∧ w.cell? ⟨g, i * 3 + 1, none⟩ = some (.int .i32 ((T i).size : Int)) ∧ w.cell? ⟨g, i * 3 + 2, none⟩ = some (.int .i32 ((T i).least : Int)) := by
  refine ⟨?_, ?_, ?_⟩
  · rw [h.mem.cellAt _ (by omega)]; exact flat_get T K i 0 hi (by decide)
  · rw [h.mem.cellAt _ (by omega)]; exact flat_get T K i 1 hi (by decide)
  · rw [h.mem.cellAt _ (by omega)]; exact flat_get T K i 2 hi (by decide)

/-- A member turns. -/
theorem Gr.set {w : World} {gb n K g cap : Nat} {jv : Value} {T : Tb} {js : List (Nat × Nat)} (h : Gr w gb (.slice (some ⟨g, 0, none⟩) K cap) jv n K T js) {i : Nat} (k : Nat) {u : Value} (n' : Mb) (hi : i < K) (hk : k < 3) (hn : nc n' = (nc (T i)).set k u) :
    Gr (w.setCell ⟨g, i * 3 + k, none⟩ u) gb (.slice (some ⟨g, 0, none⟩) K cap) jv n K (upd T i n') js := by
  have hm := h.mne (k := g) rfl
  obtain ⟨h1, h2⟩ := h.mem.stored (i * 3 + k) u
  rw [flat_set hk hn K hi] at h1
  refine ⟨(h2.block gb h.lt (fun e => hm.1 (Option.some.inj e).symm)).trans h.self, h1, h.jo.kept h2 ?_, fun x hx => by rw [upd_ne (by omega)]; exact h.rest x hx, h.hK, h.hj, h.hn⟩
  exact Or.inr hm.2

end Go.Proofs.Ytnlbpjppkfenkaa
