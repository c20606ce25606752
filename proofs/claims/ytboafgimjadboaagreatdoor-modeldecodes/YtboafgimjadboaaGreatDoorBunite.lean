/- Groups in memory; what a call may have turned. 'alone', 'at', 'top', 'look', walked. 'reach', walked: members up to one are kept. 'hang', walked: a top hung on another one. 'undo', walked: the last join taken back. What the Groups' calls answer. Join, Back, Count, Steps; members that are none; nil Groups. -/
import Derived.Test.YtboafgimjadboaaGreatDoorBpure
import Derived.WalkKit
import Derived.WalkSpells
import Derived.WalkLawsBesides
import Derived.OwnWalk
import Derived.Laws.OwnMore
import Derived.Test.YtboafgimjadboaaGreatDoorChecked
import Derived.Handy
import Derived.Deep.RegionHeld3
import Derived.Deep.AppendLies
import Derived.Deep.RegionLaw
import Derived.Deep.CutBlock
import Derived.Deep.QuietTactic
import Derived.BigQuiet
namespace Go.Proofs.YtboafgimjadboaaGreatDoor.Un
open Go.RowKit
set_option linter.unusedVariables false

theorem hid {p : Prop} (h : p) : Hid p := h

/-- Outside the blocks of S all is as it was; new blocks may have come. -/
structure Turned (S : Nat → Prop) (w w' : World) : Prop where
  os : w'.os = w.os
  tape : w'.tape = w.tape
  output : w'.output = w.output
  size : w.heap.size ≤ w'.heap.size
  block : ∀ k, k < w.heap.size → ¬ S k → w'.heap[k]? = w.heap[k]?

theorem Turned.refl (S : Nat → Prop) (w : World) : Turned S w w := ⟨rfl, rfl, rfl, Nat.le_refl _, fun _ _ _ => rfl⟩

theorem Turned.trans {S : Nat → Prop} {a b c : World} (h : Turned S a b) (k : Turned S b c) : Turned S a c :=
  ⟨k.os.trans h.os, k.tape.trans h.tape, k.output.trans h.output, Nat.le_trans h.size k.size, fun i hi h1 => (k.block i (Nat.lt_of_lt_of_le hi h.size) h1).trans (h.block i hi h1)⟩

/-- What came new in the meantime may turn too. -/
theorem Turned.then {S S' : Nat → Prop} {a b c : World} (h : Turned S a b) (k : Turned S' b c) (hs : ∀ i, i < a.heap.size → S' i → S i) : Turned S a c :=
  ⟨k.os.trans h.os, k.tape.trans h.tape, k.output.trans h.output, Nat.le_trans h.size k.size, fun i hi h1 => (k.block i (Nat.lt_of_lt_of_le hi h.size) (fun e => h1 (hs i hi e))).trans (h.block i hi h1)⟩

theorem Turned.mono {S S' : Nat → Prop} {w w' : World} (h : Turned S w w') (hs : ∀ k, S k → S' k) : Turned S' w w' :=
  ⟨h.os, h.tape, h.output, h.size, fun k hk ho => h.block k hk (fun e => ho (hs k e))⟩

theorem Turned.ofBelow {w w' : World} (h : Below w.heap.size w w') (S : Nat → Prop) : Turned S w w' := ⟨h.os, h.tape, h.output, h.size, fun k hk _ => h.block k hk⟩

theorem Turned.ofGrown {S : Nat → Prop} {w w' : World} {row : Option Nat} (h : w.grownBy w' row) (hs : ∀ k, row = some k → S k) : Turned S w w' :=
  ⟨h.os, h.tape, h.output, h.size, fun k hk ho => h.block k hk (fun e => ho (hs k e.symm))⟩

theorem Turned.below {S : Nat → Prop} {B : Nat} {w w' : World} (h : Turned S w w') (h1 : ∀ k, S k → B ≤ k) (h2 : B ≤ w.heap.size) : Below B w w' :=
  ⟨h.os, h.tape, h.output, h.size, fun k hk => h.block k (by omega) (fun e => by have := h1 k e; omega)⟩

theorem Turned.drew {S : Nat → Prop} {a w : World} (h : Turned S a w) : Turned S a w.drew := ⟨h.os, h.tape, h.output, h.size, h.block⟩

theorem Turned.setCell {S : Nat → Prop} {a w : World} (h : Turned S a w) {p : Addr} (hp : S p.block) (u : Value) : Turned S a (w.setCell p u) :=
  h.trans ⟨rfl, rfl, rfl, by simp [World.setCell], fun k hk ho => Below.heap_setCell _ _ _ _ (fun e => ho (e ▸ hp))⟩

theorem Turned.alloc {S : Nat → Prop} {a w : World} (h : Turned S a w) (o : Obj) : Turned S a (w.alloc o) :=
  h.trans ⟨rfl, rfl, rfl, by simp, fun k hk _ => Below.heap_alloc _ _ _ hk⟩

theorem Turned.cell {S : Nat → Prop} {w w' : World} (h : Turned S w w') {p : Addr} {v : Value} (hc : w.cell? p = some v) (ho : ¬ S p.block) : w'.cell? p = some v :=
  (World.cell?_of_block (h.block p.block (World.block_lt_of_cell? w p hc) ho)).trans hc

/-- A member, as a value; its cells. -/
abbrev mbv (m : Mb) : Value := .agg #[.int .i32 (m.up : Int), .int .i32 (m.size : Int), .int .i32 (m.least : Int)]
def nc (m : Mb) : List Value := [.int .i32 (m.up : Int), .int .i32 (m.size : Int), .int .i32 (m.least : Int)]

def flat (T : Tb) : Nat → List Value
  | 0 => []
  | N + 1 => flat T N ++ nc (T N)

theorem flat_length (T : Tb) : ∀ N, (flat T N).length = N * 3
  | 0 => rfl
  | N + 1 => by simp [flat, flat_length T N, nc]; omega

theorem flat_congr {T T' : Tb} : ∀ {N : Nat}, (∀ i, i < N → T i = T' i) → flat T N = flat T' N
  | 0, _ => rfl
  | N + 1, h => by simp only [flat]; rw [flat_congr (fun i hi => h i (by omega)), h N (by omega)]

theorem flat_get (T : Tb) : ∀ (N i k : Nat), i < N → k < 3 → (flat T N)[i * 3 + k]? = (nc (T i))[k]?
  | 0, i, k, hi, _ => by omega
  | N + 1, i, k, hi, hk => by
    unfold flat
    by_cases e : i = N
    · subst e
      rw [List.getElem?_append_right (by rw [flat_length]; omega), flat_length]
      congr 1; omega
    · rw [List.getElem?_append_left (by rw [flat_length]; omega)]
      exact flat_get T N i k (by omega) hk

theorem flat_set {T : Tb} {i k : Nat} {u : Value} {n' : Mb} (hk : k < 3) (hn : nc n' = (nc (T i)).set k u) : ∀ (N : Nat), i < N → (flat T N).set (i * 3 + k) u = flat (upd T i n') N
  | 0, hi => by omega
  | N + 1, hi => by
    unfold flat
    by_cases e : i = N
    · subst e
      rw [List.set_append_right _ _ (by rw [flat_length]; omega), flat_length, upd_same, hn, flat_congr (T := upd T i n') (T' := T) (fun j hj => upd_ne (by omega))]
      congr 2; omega
    · rw [List.set_append_left _ _ (by rw [flat_length]; omega), flat_set hk hn N (by omega), upd_ne (by omega)]

/-- The joins' cells. -/
def jcs : List (Nat × Nat) → List Value
  | [] => []
  | (u, l) :: js => .int .i32 (u : Int) :: .int .i32 (l : Int) :: jcs js

theorem jcs_append : ∀ (a b : List (Nat × Nat)), jcs (a ++ b) = jcs a ++ jcs b
  | [], b => rfl
  | (u, l) :: a, b => by simp [jcs, jcs_append a b]

theorem own_form {w : World} {base n : Nat} {e : TypeId} {size : Nat} {v : Value} {xs : List Value} (h : w.ownsRow base e size v n xs) (hn : 0 < n) : ∃ g cap, v = .slice (some ⟨g, 0, none⟩) n cap ∧ n ≤ cap ∧ cap ≤ maxLen := by
  rcases h.2 with ⟨_, e⟩ | ⟨g, cap, cur, e, _, _, e1, e2, _⟩
  · omega
  · exact ⟨g, cap, e, e1, e2⟩

theorem own_any {w : World} {base n : Nat} {e : TypeId} {size : Nat} {v : Value} {xs : List Value} (h : w.ownsRow base e size v n xs) : ∃ ad cap, v = .slice ad n cap ∧ n ≤ cap ∧ cap ≤ maxLen := by
  rcases h.2 with ⟨e1, e⟩ | ⟨g, cap, cur, e, _, _, e1, e2, _⟩
  · subst e; exact ⟨none, 0, e1, Nat.le_refl _, by unfold maxLen; omega⟩
  · exact ⟨_, cap, e, e1, e2⟩

/-- The Groups at gb: n members, K of them kept, and the joins. -/
structure Gr (w : World) (gb : Nat) (mv jv : Value) (n K : Nat) (T : Tb) (js : List (Nat × Nat)) : Prop where
  self : w.heap[gb]? = some (.cells #[.int .i64 (n : Int), mv, jv] 255 (0, 0))
  mem : w.ownsRow 0 242 3 mv K (flat T K)
  jo : w.ownsRow 0 264 2 jv js.length (jcs js)
  rest : ∀ x, K ≤ x → T x = alone x
  hK : K ≤ n
  hj : js.length < n
  hn : n ≤ 4194304

/-- Its blocks. -/
def own (gb : Nat) (mv jv : Value) (k : Nat) : Prop := k = gb ∨ mv.ownBlock = some k ∨ jv.ownBlock = some k

section
variable {w w' : World} {gb n K : Nat} {mv jv : Value} {T : Tb} {js : List (Nat × Nat)} (h : Gr w gb mv jv n K T js)
include h

theorem Gr.c0 : w.cell? ⟨gb, 0, none⟩ = some (.int .i64 (n : Int)) := by unfold World.cell?; rw [h.self]; simp
theorem Gr.c1 : w.cell? ⟨gb, 1, none⟩ = some mv := by unfold World.cell?; rw [h.self]; simp
theorem Gr.c2 : w.cell? ⟨gb, 2, none⟩ = some jv := by unfold World.cell?; rw [h.self]; simp
theorem Gr.f1 : w.frozen? ⟨gb, 1, none⟩ = false := by unfold World.frozen?; rw [h.self]; simp
theorem Gr.f2 : w.frozen? ⟨gb, 2, none⟩ = false := by unfold World.frozen?; rw [h.self]; simp
theorem Gr.lt : gb < w.heap.size := (Array.getElem?_eq_some_iff.1 h.self).1
theorem Gr.olt {k : Nat} (hk : own gb mv jv k) : k < w.heap.size := by
  rcases hk with rfl | hk | hk
  · exact h.lt
  · exact (h.mem.lt k hk).2
  · exact (h.jo.lt k hk).2

theorem Gr.of {S : Nat → Prop} (ht : Turned S w w') (ho : ∀ k, own gb mv jv k → ¬ S k) : Gr w' gb mv jv n K T js := by
  refine ⟨(ht.block gb h.lt (ho gb (Or.inl rfl))).trans h.self, ?_, ?_, h.rest, h.hK, h.hj, h.hn⟩
  · refine ⟨h.mem.1, ?_⟩
    rcases h.mem.2 with hn | ⟨g, cap, cur, rfl, hb, hgg, rest⟩
    · exact .inl hn
    · exact .inr ⟨g, cap, cur, rfl, hb, (ht.block g (Array.getElem?_eq_some_iff.1 hgg).1 (ho g (Or.inr (Or.inl rfl)))).trans hgg, rest⟩
  · refine ⟨h.jo.1, ?_⟩
    rcases h.jo.2 with hn | ⟨g, cap, cur, rfl, hb, hgg, rest⟩
    · exact .inl hn
    · exact .inr ⟨g, cap, cur, rfl, hb, (ht.block g (Array.getElem?_eq_some_iff.1 hgg).1 (ho g (Or.inr (Or.inr rfl)))).trans hgg, rest⟩

theorem Gr.more (hb : Below w.heap.size w w') : Gr w' gb mv jv n K T js := h.of (Turned.ofBelow hb (fun _ => False)) (fun _ _ e => e)

theorem Gr.mne {k : Nat} (hk : mv.ownBlock = some k) : k ≠ gb ∧ jv.ownBlock ≠ some k := by
  rcases h.mem.2 with ⟨rfl, _⟩ | ⟨g, cap, cur, rfl, hb, hgg, _⟩
  · simp [Value.ownBlock] at hk
  · simp [Value.ownBlock] at hk
    subst hk
    refine ⟨fun e => ?_, fun e => ?_⟩
    · have := h.self
      rw [← e, hgg] at this
      injection this with this
      injection this with _ this
      cases this
    · rcases h.jo.2 with ⟨rfl, _⟩ | ⟨g', cap', cur', rfl, hb', hgg', _⟩
      · simp [Value.ownBlock] at e
      · simp [Value.ownBlock] at e
        subst e
        rw [hgg] at hgg'
        injection hgg' with this
        injection this with _ this
        cases this

theorem Gr.jne {k : Nat} (hk : jv.ownBlock = some k) : k ≠ gb ∧ mv.ownBlock ≠ some k := by
  refine ⟨fun e => ?_, fun e => (h.mne e).2 hk⟩
  rcases h.jo.2 with ⟨rfl, _⟩ | ⟨g, cap, cur, rfl, hb, hgg, _⟩
  · simp [Value.ownBlock] at hk
  · simp [Value.ownBlock] at hk
    subst hk
    have := h.self
    rw [← e, hgg] at this
    injection this with this
    injection this with _ this
    cases this
end

/-- A member's cells, where the row lies. -/
theorem Gr.at {w : World} {gb n K g cap : Nat} {jv : Value} {T : Tb} {js : List (Nat × Nat)} (h : Gr w gb (.slice (some ⟨g, 0, none⟩) K cap) jv n K T js) {i : Nat} (hi : i < K) :
    w.cell? ⟨g, i * 3, none⟩ = some (.int .i32 ((T i).up : Int)) ∧ w.cell? ⟨g, i * 3 + 1, none⟩ = some (.int .i32 ((T i).size : Int)) ∧ w.cell? ⟨g, i * 3 + 2, none⟩ = some (.int .i32 ((T i).least : Int)) := by
  refine ⟨?_, ?_, ?_⟩
  · rw [h.mem.cellAt _ (by omega)]; exact flat_get T K i 0 hi (by decide)
  · rw [h.mem.cellAt _ (by omega)]; exact flat_get T K i 1 hi (by decide)
  · rw [h.mem.cellAt _ (by omega)]; exact flat_get T K i 2 hi (by decide)

/-- A member turns. -/
theorem Gr.set {w : World} {gb n K g cap : Nat} {jv : Value} {T : Tb} {js : List (Nat × Nat)} (h : Gr w gb (.slice (some ⟨g, 0, none⟩) K cap) jv n K T js) {i : Nat} (k : Nat) {u : Value} (n' : Mb) (hi : i < K) (hk : k < 3) (hn : nc n' = (nc (T i)).set k u) :
    Gr (w.setCell ⟨g, i * 3 + k, none⟩ u) gb (.slice (some ⟨g, 0, none⟩) K cap) jv n K (upd T i n') js := by
  have hm := h.mne (k := g) rfl
  obtain ⟨h1, h2⟩ := h.mem.stored (i * 3 + k) u
  rw [flat_set hk hn K hi] at h1
  refine ⟨(h2.block gb h.lt (fun e => hm.1 (Option.some.inj e).symm)).trans h.self, h1, h.jo.kept h2 ?_, fun x hx => by rw [upd_ne (by omega)]; exact h.rest x hx, h.hK, h.hj, h.hn⟩
  exact Or.inr hm.2

end Go.Proofs.YtboafgimjadboaaGreatDoor.Un

namespace Go.Proofs.YtboafgimjadboaaGreatDoor.Un
open Go.RowKit
set_option linter.unusedVariables false

set_option maxRecDepth 100000 in
set_option maxHeartbeats 1000000 in
theorem alone_ok (x : Nat) (w : World) (hx : x ≤ 4194304) : Calls Tryz.prog 146 #[.int .i64 (x : Int)] w fun e w' => e = .returned (mbv (alone x)) ∧ Below w.heap.size w w' := by
  have hw : IntKind.i32.wrap (x : Int) = (x : Int) := by rw [IntKind.wrap_i32]; omega
  go_enter Tryz.func146, Tryz.ntmps146
  go_wp2_with fail
  go_returns
  exact ⟨rfl, (Below.refl _ _).alloc (Nat.le_refl _) _⟩

/-- A member's own block: its cells. -/
theorem blk3 {w : World} {g : Nat} {t : TypeId} {x y z : Value} (h : w.heap[g]? = some (.cells #[x, y, z] t (0, 0))) : w.cell? ⟨g, 0, none⟩ = some x ∧ w.cell? ⟨g, 1, none⟩ = some y ∧ w.cell? ⟨g, 2, none⟩ = some z ∧ w.frozen? ⟨g, 0, none⟩ = false ∧ w.frozen? ⟨g, 1, none⟩ = false ∧ w.frozen? ⟨g, 2, none⟩ = false := by
  unfold World.cell? World.frozen?
  rw [h]
  simp

theorem set3_block {w : World} {g : Nat} {t : TypeId} {u v x : Value} (h : w.heap[g]? = some (.cells #[u, v, x] t (0, 0))) (a b c : Value) : (((w.setCell ⟨g, 0, none⟩ a).setCell ⟨g, 1, none⟩ b).setCell ⟨g, 2, none⟩ c).heap[g]? = some (.cells #[a, b, c] t (0, 0)) := by
  unfold World.setCell
  rw [Array.getElem?_modify, if_pos rfl, Array.getElem?_modify, if_pos rfl, Array.getElem?_modify, if_pos rfl, h]
  simp

theorem below3 {B : Nat} {a w : World} {g : Nat} (h : Below B a w) (hg : B ≤ g) (x y z : Value) : Below B a (((w.setCell ⟨g, 0, none⟩ x).setCell ⟨g, 1, none⟩ y).setCell ⟨g, 2, none⟩ z) :=
  ((h.setCell (p := ⟨g, 0, none⟩) hg x).setCell (p := ⟨g, 1, none⟩) hg y).setCell (p := ⟨g, 2, none⟩) hg z

set_option maxRecDepth 100000 in
set_option maxHeartbeats 1000000 in
theorem at_ok (gb n K x : Nat) (mv jv : Value) (T : Tb) (js : List (Nat × Nat)) (w : World) (h : Gr w gb mv jv n K T js) (hx : x < n) :
    Calls Tryz.prog 139 #[.pointer (some ⟨gb, 0, none⟩), .int .i64 (x : Int)] w fun e w' => e = .returned (mbv (T x)) ∧ Below w.heap.size w w' := by
  obtain ⟨ad, cap, rfl, hc1, hc2⟩ := own_any h.mem
  have c1 := h.c1
  have hlt := h.lt
  have hn := h.hn
  by_cases hk : x < K
  · have t1 : decide ((x : Int) < (K : Int)) = true := decide_eq_true (by omega)
    obtain ⟨g, cap', hv, _⟩ := own_form h.mem (by omega)
    simp only [Value.slice.injEq] at hv
    obtain ⟨rfl, _, rfl⟩ := hv
    obtain ⟨a0, a1, a2⟩ := h.at hk
    have hgl := World.block_lt_of_cell? w _ a0
    simp at hgl
    have hgn : g ≠ w.heap.size := by omega
    have hbn : gb ≠ w.heap.size := by omega
    clear h
    go_enter Tryz.func139, Tryz.ntmps139
    go_wp2_with fail
    go_returns
    exact ⟨rfl, (Below.refl _ _).alloc (Nat.le_refl _) _⟩
  · have t1 : decide ((x : Int) < (K : Int)) = false := decide_eq_false (by omega)
    have hr := h.rest x (by omega)
    rw [hr]
    have hbn : gb ≠ w.heap.size := by omega
    clear h hr
    go_enter Tryz.func139, Tryz.ntmps139
    go_wp2_with fail
    refine (alone_ok x _ (by omega)).mono ?_
    rintro e w1 ⟨rfl, b1⟩
    have hc : w1.heap[w.heap.size]? = some (.cells #[.int .i32 0, .int .i32 0, .int .i32 0] 242 (0, 0)) := (b1.block w.heap.size (by simp)).trans (heap_alloc_new w _)
    have hfin := hid (set3_block hc (.int .i32 ((alone x).up : Int)) (.int .i32 ((alone x).size : Int)) (.int .i32 ((alone x).least : Int)))
    have hbel := hid (below3 (((Below.refl w.heap.size w).alloc (Nat.le_refl _) _).trans (b1.mono (by simp))) (Nat.le_refl _) (.int .i32 ((alone x).up : Int)) (.int .i32 ((alone x).size : Int)) (.int .i32 ((alone x).least : Int)))
    obtain ⟨d0, d1, d2, f0, f1, f2⟩ := blk3 hc
    clear hc b1
    go_wp2_with fail
    refine bodyPost_ret (results_cell_row rfl _ _ w.heap.size 242 _ (0, 0) _ rfl hfin.out Tryz.underlying242 rfl (by kernel_rfl)) rfl ?_
    exact ⟨rfl, hbel.out⟩

set_option maxRecDepth 100000 in
set_option maxHeartbeats 2000000 in
theorem top_ok (gb n K x : Nat) (mv jv : Value) (T : Tb) (js : List (Nat × Nat)) (r d f : Nat → Nat) (w : World) (h : Gr w gb mv jv n K T js) (ok : Ok n T r d f) (hx : x < n) :
    Calls Tryz.prog 130 #[.pointer (some ⟨gb, 0, none⟩), .int .i64 (x : Int)] w fun e w' => e = .returned (mbv (T (r x))) ∧ Below w.heap.size w w' := by
  have hn := h.hn
  have hh := hid h
  have okh := hid ok
  have hlt := h.lt
  clear h ok
  go_enter Tryz.func130, Tryz.ntmps130
  go_wp2_with fail
  refine (at_ok gb n K x mv jv T js _ (hh.out.more ((Below.refl _ _).alloc (Nat.le_refl _) _)) hx).mono ?_
  rintro e w1 ⟨rfl, b1⟩
  have hw1 : Hid (Below w.heap.size w w1) := ((Below.refl w.heap.size w).alloc (Nat.le_refl _) _).trans (b1.mono (by simp))
  have hc1 : w1.heap[w.heap.size]? = some (.cells #[.int .i32 0, .int .i32 0, .int .i32 0] 242 (0, 0)) := (b1.block w.heap.size (by simp)).trans (heap_alloc_new w _)
  have hs := b1.size
  simp at hs
  replace hc1 := hid hc1
  clear b1
  go_wp2_with fail
  go_loopw [1] (fun u wr => ∃ y : Nat, y < n ∧ u = .int .i64 (y : Int) ∧ Hid (r y = r x ∧ Below w.heap.size w wr ∧ wr.heap[w.heap.size]? = some (.cells #[.int .i32 0, .int .i32 0, .int .i32 0] 242 (0, 0)) ∧ wr.heap[w1.heap.size]? = some (.cells #[.int .i32 ((T y).up : Int), .int .i32 ((T y).size : Int), .int .i32 ((T y).least : Int)] 242 (0, 0))))
    (fun u _ => d (intOf u).toNat)
  case atStart => exact ⟨x, hx, rfl, rfl, hw1.out.alloc (by omega) _, (Below.heap_alloc _ _ _ hs).trans hc1.out, heap_alloc_new _ _⟩
  case round =>
    obtain ⟨y, hy, rfl, hst⟩ := hrel
    obtain ⟨d0, d1, d2, f0, f1, f2⟩ := blk3 hst.out.2.2.2
    have hup := okh.out.upn y hy
    by_cases e : (T y).up = y
    · have t1 : ((((T y).up : Nat) : Int) == (y : Int)) = true := by simp [e]
      have t2 : ((((T y).up : Nat) : Int) != (y : Int)) = false := by simp [e]
      have hry : r x = y := hst.out.1.symm.trans ((okh.out.self y hy).1 e)
      obtain ⟨e0, e1, e2, g0, g1, g2⟩ := blk3 hst.out.2.2.1
      have hfin := hid (set3_block hst.out.2.2.1 (.int .i32 ((T y).up : Int)) (.int .i32 ((T y).size : Int)) (.int .i32 ((T y).least : Int)))
      have hbel := hid (below3 hst.out.2.1 (Nat.le_refl _) (.int .i32 ((T y).up : Int)) (.int .i32 ((T y).size : Int)) (.int .i32 ((T y).least : Int)))
      replace hry := hid hry
      replace e := hid e
      go_wp2_with fail
      refine bodyPost_ret (results_cell_row rfl _ _ w.heap.size 242 _ (0, 0) _ rfl hfin.out Tryz.underlying242 rfl (by kernel_rfl)) rfl ?_
      exact ⟨by rw [hry.out], hbel.out⟩
    · have t1 : ((((T y).up : Nat) : Int) == (y : Int)) = false := by simp; omega
      have t2 : ((((T y).up : Nat) : Int) != (y : Int)) = true := by simp; omega
      replace e := hid e
      go_wp2_with fail
      refine (at_ok gb n K (T y).up mv jv T js _ (hh.out.more hst.out.2.1) hup).mono ?_
      rintro e' w2 ⟨rfl, b2⟩
      have hsz := hst.out.2.1.size
      have hlt1 := (Array.getElem?_eq_some_iff.1 hst.out.2.2.2).1
      have hk1 := hid ((b2.block _ hlt1).trans hst.out.2.2.2)
      have hk0 := hid ((b2.block _ (by omega)).trans hst.out.2.2.1)
      have hbw := hid (hst.out.2.1.trans (b2.mono hsz))
      obtain ⟨d0, d1, d2, f0, f1, f2⟩ := blk3 hk1.out
      have hfin := hid (set3_block hk1.out (.int .i32 ((T (T y).up).up : Int)) (.int .i32 ((T (T y).up).size : Int)) (.int .i32 ((T (T y).up).least : Int)))
      have hbel := hid (below3 (g := w1.heap.size) hbw.out (by omega) (.int .i32 ((T (T y).up).up : Int)) (.int .i32 ((T (T y).up).size : Int)) (.int .i32 ((T (T y).up).least : Int)))
      clear b2
      go_wp2_with fail
      go_roundw
      case rel =>
        refine ⟨(T y).up, hup, rfl, (okh.out.upr y hy).trans hst.out.1, hbel.out, ?_, hfin.out⟩
        rw [Below.heap_setCell _ _ _ _ (by show _ ≠ w1.heap.size; omega), Below.heap_setCell _ _ _ _ (by show _ ≠ w1.heap.size; omega), Below.heap_setCell _ _ _ _ (by show _ ≠ w1.heap.size; omega)]
        exact hk0.out
      case measure => have := okh.out.ds y hy e.out; simp [intOf]; omega

/-- The block holds these numbers. -/
def Nums (w : World) (b : Nat) (xs : List Int) : Prop := w.heap[b]? = some (.cells (xs.map (fun z => Value.int .i64 z)).toArray 3 (0, 0))

theorem Nums.cell {w : World} {b j : Nat} {xs : List Int} {z : Int} (h : Nums w b xs) (hz : xs[j]? = some z) : w.cell? ⟨b, j, none⟩ = some (.int .i64 z) := by
  unfold World.cell?
  rw [h]
  simp [hz]

set_option maxRecDepth 100000 in
set_option maxHeartbeats 1000000 in
theorem look_ok (fb b n : Nat) (xs : List Int) (w : World) (hn : w.cell? ⟨fb, 0, none⟩ = some (.int .i64 (n : Int))) (hb : Nums w b xs) (hl : xs.length ≤ 2) (hok : ∀ z ∈ xs, 0 ≤ z ∧ z < (n : Int)) :
    Calls Tryz.prog 129 #[.pointer (some ⟨fb, 0, none⟩), .slice (some ⟨b, 0, none⟩) xs.length xs.length] w fun e w' => e = .returned .nilIface ∧ w = w' := by
  have hbh := hid hb
  have hokh := hid hok
  clear hb hok
  go_enter Tryz.func129, Tryz.ntmps129
  go_wp2_with fail
  go_loop [6, 12] (fun _ u => ∃ j : Nat, j ≤ xs.length ∧ u = .int .i64 (j : Int)) (fun _ u => xs.length - (intOf u).toNat)
  case atStart => exact ⟨0, by omega, by go_num⟩
  case round =>
    obtain ⟨j, hj, rfl⟩ := hrel
    rcases Nat.lt_or_ge j xs.length with hlt | hge
    · obtain ⟨z, hz⟩ : ∃ z, xs[j]? = some z := ⟨_, List.getElem?_eq_getElem hlt⟩
      have hc := hbh.out.cell hz
      have hzz := hokh.out z (List.mem_of_getElem? hz)
      have t1 : decide (z < 0) = false := decide_eq_false (by omega)
      have t2 : decide ((n : Int) ≤ z) = false := decide_eq_false (by omega)
      clear hz hzz
      go_wp2_with fail
      go_round
      case rel => exact ⟨j + 1, by omega, by go_num⟩
      case measure => simp [intOf]; omega
    · go_wp2_with fail
      go_ret
      exact ⟨rfl, rfl⟩

end Go.Proofs.YtboafgimjadboaaGreatDoor.Un

namespace Go.Proofs.YtboafgimjadboaaGreatDoor.Un
open Go.RowKit
set_option linter.unusedVariables false

theorem info_parts {P : Program} {e : TypeId} {z : Value} {s b : Nat} (h : (P.info? e).map (fun i => (i.zero, i.size, i.bytes)) = some (some z, s, b)) : ∃ i, P.info? e = some i ∧ i.zero = some z ∧ i.size = s ∧ i.bytes = b := by
  cases hi : P.info? e with
  | none => rw [hi] at h; cases h
  | some i =>
    rw [hi] at h
    simp at h
    exact ⟨i, rfl, h.1, h.2.1, h.2.2⟩

theorem infoMember : (Tryz.prog.info? 242).map (fun i => (i.zero, i.size, i.bytes)) = some (some (.agg #[.int .i32 0, .int .i32 0, .int .i32 0]), 3, 12) := by kernel_rfl
theorem infoJoin : (Tryz.prog.info? 264).map (fun i => (i.zero, i.size, i.bytes)) = some (some (.agg #[.int .i32 0, .int .i32 0]), 2, 8) := by kernel_rfl

theorem grown_set (w : World) (p : Addr) (u : Value) : w.grownBy (w.setCell p u) (some p.block) := ⟨rfl, rfl, rfl, by simp [World.setCell], fun k hk hne => Below.heap_setCell _ _ _ _ (fun e => hne (by rw [e]))⟩

theorem put1 {w : World} {gb n K : Nat} {mv jv mv' : Value} {T : Tb} {js : List (Nat × Nat)} (hs : w.heap[gb]? = some (.cells #[.int .i64 (n : Int), mv, jv] 255 (0, 0))) (hm : w.ownsRow 0 242 3 mv' K (flat T K)) (hj : w.ownsRow 0 264 2 jv js.length (jcs js))
    (m1 : mv'.ownBlock ≠ some gb) (m2 : jv.ownBlock ≠ some gb) (hr : ∀ x, K ≤ x → T x = alone x) (hK : K ≤ n) (hl : js.length < n) (hn : n ≤ 4194304) : Gr (w.setCell ⟨gb, 1, none⟩ mv') gb mv' jv n K T js := by
  refine ⟨?_, hm.kept (grown_set w ⟨gb, 1, none⟩ mv') (Or.inr m1), hj.kept (grown_set w ⟨gb, 1, none⟩ mv') (Or.inr m2), hr, hK, hl, hn⟩
  unfold World.setCell
  rw [Array.getElem?_modify, if_pos rfl, hs]
  simp

theorem put2 {w : World} {gb n K : Nat} {mv jv jv' : Value} {T : Tb} {js : List (Nat × Nat)} (hs : w.heap[gb]? = some (.cells #[.int .i64 (n : Int), mv, jv] 255 (0, 0))) (hm : w.ownsRow 0 242 3 mv K (flat T K)) (hj : w.ownsRow 0 264 2 jv' js.length (jcs js))
    (m1 : mv.ownBlock ≠ some gb) (m2 : jv'.ownBlock ≠ some gb) (hr : ∀ x, K ≤ x → T x = alone x) (hK : K ≤ n) (hl : js.length < n) (hn : n ≤ 4194304) : Gr (w.setCell ⟨gb, 2, none⟩ jv') gb mv jv' n K T js := by
  refine ⟨?_, hm.kept (grown_set w ⟨gb, 2, none⟩ jv') (Or.inr m1), hj.kept (grown_set w ⟨gb, 2, none⟩ jv') (Or.inr m2), hr, hK, hl, hn⟩
  unfold World.setCell
  rw [Array.getElem?_modify, if_pos rfl, hs]
  simp

/-- How long the slice at a place is. -/
def lenAt (w : World) (a : Addr) : Nat := match w.cell? a with
  | some (.slice _ k _) => k
  | _ => 0

/-- A row is where it was, or new. -/
def Fresh (w : World) (v v' : Value) : Prop := ∀ k, v'.ownBlock = some k → v.ownBlock = some k ∨ w.heap.size ≤ k

theorem Fresh.refl (w : World) (v : Value) : Fresh w v v := fun k h => Or.inl h
theorem Fresh.trans {w w' : World} {u v x : Value} (h : Fresh w u v) (k : Fresh w' v x) (hs : w.heap.size ≤ w'.heap.size) : Fresh w u x := fun i hi => by
  rcases k i hi with e | e
  · exact h i e
  · exact Or.inr (by omega)

/-- One member more is kept. -/
theorem Gr.grow {w w2 w3 : World} {gb n K g cap : Nat} {mv jv : Value} {T : Tb} {js : List (Nat × Nat)} (h : Gr w gb mv jv n K T js) (hK : K < n) (hb : Below w.heap.size w w2) (hg : w2.grownBy w3 mv.ownBlock)
    (ho : w3.ownsRow 0 242 3 (.slice (some ⟨g, 0, none⟩) (K + 1) cap) (K + 1) (flat T K ++ nc (alone K))) (hat : mv.ownBlock = some g ∨ g = w2.heap.size) :
    Gr (w3.setCell ⟨gb, 1, none⟩ (.slice (some ⟨g, 0, none⟩) (K + 1) cap)) gb (.slice (some ⟨g, 0, none⟩) (K + 1) cap) jv n (K + 1) T js ∧ Turned (own gb mv jv) w (w3.setCell ⟨gb, 1, none⟩ (.slice (some ⟨g, 0, none⟩) (K + 1) cap)) ∧ Fresh w mv (.slice (some ⟨g, 0, none⟩) (K + 1) cap) := by
  have h2 := h.more hb
  have hne : mv.ownBlock ≠ some gb := fun e => (h2.mne e).1 rfl
  have hjn : jv.ownBlock ≠ some gb := fun e => (h2.jne e).1 rfl
  have hgn : g ≠ gb := by
    rcases hat with e | e
    · exact (h2.mne e).1
    · have := h2.lt; omega
  have hf : flat T K ++ nc (alone K) = flat T (K + 1) := by
    rw [← h.rest K (Nat.le_refl _)]; rfl
  rw [hf] at ho
  refine ⟨put1 ((hg.block gb h2.lt (fun e => hne e.symm)).trans h2.self) ho (h2.jo.kept hg ?_) (by simpa [Value.ownBlock] using hgn) hjn (fun x hx => h.rest x (by omega)) (by omega) h.hj h.hn, ?_, fun k hk => ?_⟩
  · cases hj : jv.ownBlock with
    | none => exact Or.inl rfl
    | some k => exact Or.inr (fun e => (h2.jne hj).2 e.symm)
  · exact ((Turned.ofBelow hb (own gb mv jv)).trans (Turned.ofGrown hg (fun k hk => Or.inr (Or.inl hk)))).setCell (p := ⟨gb, 1, none⟩) (Or.inl rfl) _
  · simp [Value.ownBlock] at hk
    subst hk
    rcases hat with e | e
    · exact Or.inl e
    · right; have := hb.size; omega

theorem s_grown {w w' : World} {gb o : Nat} {v : Value} {row : Option Nat} (k : w.cell? ⟨gb, o, none⟩ = some v ∧ w.frozen? ⟨gb, o, none⟩ = false) (hg : w.grownBy w' row) (hne : row ≠ some gb) : w'.cell? ⟨gb, o, none⟩ = some v ∧ w'.frozen? ⟨gb, o, none⟩ = false := by
  have hb := hg.block gb (World.block_lt_of_cell? w _ k.1) (fun e => hne e.symm)
  exact ⟨(World.cell?_of_block (a := ⟨gb, o, none⟩) hb).trans k.1, (World.frozen?_of_block (a := ⟨gb, o, none⟩) hb).trans k.2⟩

theorem nc_one (m : Mb) : ∀ u ∈ nc m, u.oneCell' = true := by
  intro u hu
  simp [nc] at hu
  rcases hu with rfl | rfl | rfl <;> rfl

theorem nc_new (w : World) (m : Mb) : ∀ j u, (nc m)[j]? = some u → (w.alloc (.cells #[.int .i32 (m.up : Int), .int .i32 (m.size : Int), .int .i32 (m.least : Int)] 242)).cell? ((⟨w.heap.size, 0, none⟩ : Addr).add j) = some u := by
  intro j u hu
  rw [show (⟨w.heap.size, 0, none⟩ : Addr).add j = ⟨w.heap.size, j, none⟩ from by unfold Addr.add; split <;> simp_all]
  have hn := heap_alloc_new w (.cells #[.int .i32 (m.up : Int), .int .i32 (m.size : Int), .int .i32 (m.least : Int)] 242)
  unfold World.cell?
  rw [hn]
  simpa [nc] using hu

set_option maxRecDepth 100000 in
set_option maxHeartbeats 2000000 in
theorem reach_ok (gb n K x : Nat) (mv jv : Value) (T : Tb) (js : List (Nat × Nat)) (w : World) (h : Gr w gb mv jv n K T js) (hx : x < n) :
    Calls Tryz.prog 145 #[.pointer (some ⟨gb, 0, none⟩), .int .i64 (x : Int)] w fun e w' => e = .returned (.tuple #[]) ∧ ∃ K' mv', Gr w' gb mv' jv n K' T js ∧ x < K' ∧ K ≤ K' ∧ Turned (own gb mv jv) w w' ∧ Fresh w mv mv' := by
  obtain ⟨i0, hif, hz0, hz1, hz2⟩ := info_parts infoMember
  have hn := h.hn
  have hlt := h.lt
  have hh := hid h
  clear h
  go_enter Tryz.func145, Tryz.ntmps145
  go_wp2_with fail
  go_loopw [8] (fun _ wr => ∃ K' : Nat, ∃ mv' : Value, Hid (Gr wr gb mv' jv n K' T js ∧ K ≤ K' ∧ Turned (own gb mv jv) w wr ∧ Fresh w mv mv')) (fun _ wr => x + 1 - lenAt wr ⟨gb, 1, none⟩)
  case atStart => exact ⟨K, mv, hh.out, Nat.le_refl _, Turned.refl _ _, Fresh.refl _ _⟩
  case round =>
    obtain ⟨K', mv', hst⟩ := hrel
    obtain ⟨ad, cap, rfl, hc1, hc2⟩ := own_any hst.out.1.mem
    have c1 := hst.out.1.c1
    have f1 := hst.out.1.f1
    have hK' := hst.out.1.hK
    have hgl := hst.out.1.lt
    by_cases hk : K' ≤ x
    · have t1 : decide ((K' : Int) ≤ (x : Int)) = true := decide_eq_true (by omega)
      have hbne : ∀ y : World, Below wr.heap.size wr y → y.cell? ⟨gb, 1, none⟩ = some (.slice ad K' cap) ∧ y.frozen? ⟨gb, 1, none⟩ = false := fun y hy => ⟨(hst.out.1.more hy).c1, (hst.out.1.more hy).f1⟩
      replace hbne := hid hbne
      have hK2 : K' ≤ 4194304 := by omega
      have hKn : K' < n := by omega
      have hcov : Hid (∀ i, i < w.heap.size → own gb (.slice ad K' cap) jv i → own gb mv jv i) := fun i hi ho => by
        rcases ho with e | e | e
        · exact Or.inl e
        · rcases hst.out.2.2.2 i e with k | k
          · exact Or.inr (Or.inl k)
          · omega
        · exact Or.inr (Or.inr e)
      have hmne : (Value.slice ad K' cap).ownBlock ≠ some gb := fun e => (hst.out.1.mne e).1 rfl
      go_wp2_with fail
      go_region_law (first
        | (go_simp; refine (alone_ok K' _ hK2).mono ?_; rintro e w1 ⟨rfl, b1⟩; have hb2 : Below wr.heap.size wr w1 := (Below.refl wr.heap.size wr).drew.trans b1; obtain ⟨k1, k1f⟩ := hbne.out w1 hb2; obtain ⟨k2, k2f⟩ := hbne.out _ (hb2.alloc hb2.size (.cells #[.int .i32 ((alone K').up : Int), .int .i32 ((alone K').size : Int), .int .i32 ((alone K').least : Int)] 242)); replace hb2 := hid hb2; dsimp only)
        | (refine step_append_lies _ (by rfl) (.tmp 15) (.tmp 22) 252 (by rfl) 0 242 i0 _ 3 12 Tryz.underlying252 hif hz0 hz1 hz2 rfl (by decide) (.slice ad K' cap) K' (flat T K') (by rfl) ((hst.out.1.more hb2.out).mem.alloc _) ⟨w1.heap.size, 0, none⟩ 1 1 (nc (alone K')) (by rfl) rfl (nc_new w1 (alone K')) (nc_one _) (by decide) (by unfold maxLen; omega) (by omega) (Nat.zero_le _) (w1.heap.size + 1) (by simp) ?_; intro g cap' w3 ho3 hg3 hat3 hlt3; obtain ⟨k3, k3f⟩ := s_grown ⟨k2, k2f⟩ hg3 hmne; have fin := hid (hst.out.1.grow hKn (hb2.out.alloc hb2.out.size _) hg3 ho3 (by simpa using hat3)); clear ho3 hg3 hat3 hlt3))
      all_goals
        go_wp2_with fail
        go_roundw
        case rel => exact ⟨K' + 1, _, fin.out.1, by have := hst.out.2.1; omega, hst.out.2.2.1.then fin.out.2.1 (fun i hi ho => hcov.out i hi ho), hst.out.2.2.2.trans fin.out.2.2 hst.out.2.2.1.size⟩
        case measure =>
          have e1 : lenAt wr ⟨gb, 1, none⟩ = K' := by unfold lenAt; rw [c1]
          unfold lenAt
          rw [fin.out.1.c1]
          simp only []
          unfold lenAt at e1
          omega
    · have t1 : decide ((K' : Int) ≤ (x : Int)) = false := decide_eq_false (by omega)
      go_wp2_with fail
      go_end0
      exact ⟨rfl, K', _, hst.out.1, by omega, hst.out.2⟩

end Go.Proofs.YtboafgimjadboaaGreatDoor.Un

namespace Go.Proofs.YtboafgimjadboaaGreatDoor.Un
open Go.RowKit
set_option linter.unusedVariables false

theorem jc_one (p : Nat × Nat) : ∀ u ∈ jcs [p], u.oneCell' = true := by
  intro u hu
  simp [jcs] at hu
  rcases hu with rfl | rfl <;> rfl

theorem jc_new (w : World) (u l : Nat) : ∀ j x, (jcs [(u, l)])[j]? = some x → (w.alloc (.cells #[.int .i32 (u : Int), .int .i32 (l : Int)] 264)).cell? ((⟨w.heap.size, 0, none⟩ : Addr).add j) = some x := by
  intro j x hx
  rw [show (⟨w.heap.size, 0, none⟩ : Addr).add j = ⟨w.heap.size, j, none⟩ from by unfold Addr.add; split <;> simp_all]
  have hn := heap_alloc_new w (.cells #[.int .i32 (u : Int), .int .i32 (l : Int)] 264)
  unfold World.cell?
  rw [hn]
  simpa [jcs] using hx

/-- One join more is kept. -/
theorem Gr.joined {w w2 w3 : World} {gb n K g cap : Nat} {mv jv : Value} {T : Tb} {js : List (Nat × Nat)} {p : Nat × Nat} (h : Gr w gb mv jv n K T js) (hl : js.length + 1 < n) (hb : Below w.heap.size w w2) (hg : w2.grownBy w3 jv.ownBlock)
    (ho : w3.ownsRow 0 264 2 (.slice (some ⟨g, 0, none⟩) (js.length + 1) cap) (js.length + 1) (jcs js ++ jcs [p])) (hat : jv.ownBlock = some g ∨ g = w2.heap.size) :
    Gr (w3.setCell ⟨gb, 2, none⟩ (.slice (some ⟨g, 0, none⟩) (js.length + 1) cap)) gb mv (.slice (some ⟨g, 0, none⟩) (js.length + 1) cap) n K T (js ++ [p]) ∧ Turned (own gb mv jv) w (w3.setCell ⟨gb, 2, none⟩ (.slice (some ⟨g, 0, none⟩) (js.length + 1) cap)) ∧ Fresh w jv (.slice (some ⟨g, 0, none⟩) (js.length + 1) cap) := by
  have h2 := h.more hb
  have hne : mv.ownBlock ≠ some gb := fun e => (h2.mne e).1 rfl
  have hjn : jv.ownBlock ≠ some gb := fun e => (h2.jne e).1 rfl
  have hgn : g ≠ gb := by
    rcases hat with e | e
    · exact (h2.jne e).1
    · have := h2.lt; omega
  rw [← jcs_append] at ho
  have e1 : (js ++ [p]).length = js.length + 1 := by simp
  refine ⟨put2 ((hg.block gb h2.lt (fun e => hjn e.symm)).trans h2.self) (h2.mem.kept hg ?_) (by rw [e1]; exact ho) hne (by simpa [Value.ownBlock] using hgn) h.rest h.hK (by omega) h.hn, ?_, fun k hk => ?_⟩
  · cases hj : mv.ownBlock with
    | none => exact Or.inl rfl
    | some k => exact Or.inr (fun e => (h2.mne hj).2 e.symm)
  · exact ((Turned.ofBelow hb (own gb mv jv)).trans (Turned.ofGrown hg (fun k hk => Or.inr (Or.inr hk)))).setCell (p := ⟨gb, 2, none⟩) (Or.inl rfl) _
  · simp [Value.ownBlock] at hk
    subst hk
    rcases hat with e | e
    · exact Or.inl e
    · right; have := hb.size; omega

theorem hang_steps {T : Tb} {o u so su lo lu : Nat} (hto : T o = ⟨o, so, lo⟩) (htu : T u = ⟨u, su, lu⟩) (ne : o ≠ u) :
    upd (upd (upd T u ⟨o, su, lu⟩) o ⟨o, so + su, lo⟩) o ⟨o, so + su, min lo lu⟩ = hangT T o u := by
  funext j
  unfold hangT
  rw [hto, htu]
  by_cases e : j = o
  · subst e; rw [upd_same, upd_same]
  · rw [upd_ne e, upd_ne e, upd_ne e]

/-- Inside 'hang': the Groups, what has turned since w, the two boxes. -/
structure HG (w wx : World) (gb n K g mcap : Nat) (mv jv jv' : Value) (T : Tb) (js : List (Nat × Nat)) (bo bu : Array Value) : Prop where
  gr : Gr wx gb (.slice (some ⟨g, 0, none⟩) K mcap) jv' n K T js
  tu : Turned (own gb mv jv) w wx
  b0 : wx.heap[w.heap.size]? = some (.cells bo 242 (0, 0))
  b1 : wx.heap[w.heap.size + 1]? = some (.cells bu 242 (0, 0))
  fm : Fresh w mv (.slice (some ⟨g, 0, none⟩) K mcap)
  fj : Fresh w jv jv'
  ne : g ≠ w.heap.size ∧ g ≠ w.heap.size + 1

theorem HG.set {w wx : World} {gb n K g mcap : Nat} {mv jv jv' : Value} {T : Tb} {js : List (Nat × Nat)} {bo bu : Array Value} (h : HG w wx gb n K g mcap mv jv jv' T js bo bu) {i : Nat} (k : Nat) {u : Value} (n' : Mb) (hi : i < K) (hk : k < 3) (hn : nc n' = (nc (T i)).set k u) :
    HG w (wx.setCell ⟨g, i * 3 + k, none⟩ u).drew gb n K g mcap mv jv jv' (upd T i n') js bo bu := by
  refine ⟨(h.gr.set k n' hi hk hn).more (Below.refl _ _).drew, ?_, ?_, ?_, h.fm, h.fj, h.ne⟩
  · refine h.tu.then ((Turned.refl (fun k => k = g) wx).setCell (p := ⟨g, i * 3 + k, none⟩) rfl u).drew (fun j hj e => ?_)
    subst e
    rcases h.fm j rfl with e | e
    · exact Or.inr (Or.inl e)
    · omega
  · exact (Below.heap_setCell _ _ _ _ (fun e => h.ne.1 e.symm)).trans h.b0
  · exact (Below.heap_setCell _ _ _ _ (fun e => h.ne.2 e.symm)).trans h.b1

set_option maxRecDepth 100000 in
set_option maxHeartbeats 2000000 in
theorem hang_ok (gb n K o u so su lo lu : Nat) (mv jv : Value) (T : Tb) (js : List (Nat × Nat)) (w : World) (h : Gr w gb mv jv n K T js) (ho : o < n) (hu : u < n) (hto : T o = ⟨o, so, lo⟩) (htu : T u = ⟨u, su, lu⟩) (ne : o ≠ u) (hs : so + su ≤ n) (h1 : lo < n) (h2 : lu < n) (hjs : js.length + 1 < n) :
    Calls Tryz.prog 138 #[.pointer (some ⟨gb, 0, none⟩), .agg #[.int .i32 (o : Int), .int .i32 (so : Int), .int .i32 (lo : Int)], .agg #[.int .i32 (u : Int), .int .i32 (su : Int), .int .i32 (lu : Int)]] w fun e w' =>
      e = .returned (.tuple #[]) ∧ ∃ K' mv' jv', Gr w' gb mv' jv' n K' (hangT T o u) (js ++ [(u, lo)]) ∧ Turned (own gb mv jv) w w' ∧ Fresh w mv mv' ∧ Fresh w jv jv' := by
  obtain ⟨i0, hif, hz0, hz1, hz2⟩ := info_parts infoJoin
  have hn := h.hn
  have hh := hid h
  have hst := hid (hang_steps hto htu ne)
  replace hto := hid hto
  replace htu := hid htu
  have bB : Below w.heap.size w ((w.alloc (.cells #[.int .i32 (o : Int), .int .i32 (so : Int), .int .i32 (lo : Int)] 242)).alloc (.cells #[.int .i32 (u : Int), .int .i32 (su : Int), .int .i32 (lu : Int)] 242)) := ((Below.refl _ _).alloc (Nat.le_refl _) _).alloc (by simp) _
  have hB0 : Hid (((w.alloc (.cells #[.int .i32 (o : Int), .int .i32 (so : Int), .int .i32 (lo : Int)] 242)).alloc (.cells #[.int .i32 (u : Int), .int .i32 (su : Int), .int .i32 (lu : Int)] 242)).heap[w.heap.size]? = some (.cells #[.int .i32 (o : Int), .int .i32 (so : Int), .int .i32 (lo : Int)] 242 (0, 0))) := (Below.heap_alloc _ _ _ (by simp)).trans (heap_alloc_new _ _)
  have hB1 : Hid (((w.alloc (.cells #[.int .i32 (o : Int), .int .i32 (so : Int), .int .i32 (lo : Int)] 242)).alloc (.cells #[.int .i32 (u : Int), .int .i32 (su : Int), .int .i32 (lu : Int)] 242)).heap[w.heap.size + 1]? = some (.cells #[.int .i32 (u : Int), .int .i32 (su : Int), .int .i32 (lu : Int)] 242 (0, 0))) := by
    have := heap_alloc_new (w.alloc (.cells #[.int .i32 (o : Int), .int .i32 (so : Int), .int .i32 (lo : Int)] 242)) (.cells #[.int .i32 (u : Int), .int .i32 (su : Int), .int .i32 (lu : Int)] 242)
    refine hid ?_
    simpa using this
  have hG := hid (hh.out.more bB)
  have hS : (((w.alloc (.cells #[.int .i32 (o : Int), .int .i32 (so : Int), .int .i32 (lo : Int)] 242)).alloc (.cells #[.int .i32 (u : Int), .int .i32 (su : Int), .int .i32 (lu : Int)] 242))).heap.size = w.heap.size + 2 := by simp
  replace bB := hid bB
  clear h
  obtain ⟨x, hx⟩ : ∃ x : Nat, (o ≤ x ∧ u ≤ x ∧ x < n) ∧ ((o < u ∧ u = x) ∨ (u < o ∧ o = x)) := by
    rcases Nat.lt_or_ge o u with k | k
    · exact ⟨u, by omega, Or.inl ⟨k, rfl⟩⟩
    · exact ⟨o, by omega, Or.inr ⟨by omega, rfl⟩⟩
  obtain ⟨⟨hxo, hxu, hxn⟩, hx⟩ := hx
  rcases hx with ⟨k, rfl⟩ | ⟨k, rfl⟩
  all_goals
    go_enter Tryz.func138, Tryz.ntmps138
    go_wp2_with fail
    generalize hwb : (w.alloc (.cells #[.int .i32 (o : Int), .int .i32 (so : Int), .int .i32 (lo : Int)] 242)).alloc (.cells #[.int .i32 (u : Int), .int .i32 (su : Int), .int .i32 (lu : Int)] 242) = wb at bB hB0 hB1 hG hS ⊢
    clear hwb
    refine (reach_ok gb n K _ mv jv T js wb hG.out hxn).mono ?_
    rintro e w1 ⟨rfl, K1, mv1, g1, g2, g3, g4, g5⟩
    have hGl : ∀ k, own gb mv jv k → k < w.heap.size := fun k hk => hh.out.olt hk
    have b0 := hid ((g4.block w.heap.size (by omega) (fun e => by have := hGl _ e; omega)).trans hB0.out)
    have b1 := hid ((g4.block (w.heap.size + 1) (by omega) (fun e => by have := hGl _ e; omega)).trans hB1.out)
    have hG1 := hid g1
    have hT1 : Hid (Turned (own gb mv jv) w w1) := (Turned.ofBelow bB.out _).trans g4
    have hF1 : Hid (Fresh w mv mv1) := fun k hk => by
      rcases g5 k hk with e | e
      · exact Or.inl e
      · exact Or.inr (by omega)
    have hO1 : Hid (∀ k, own gb mv1 jv k → k < w.heap.size ∨ w.heap.size + 2 ≤ k) := fun k hk => by
      rcases hk with e | e | e
      · exact Or.inl (hGl k (Or.inl e))
      · rcases g5 k e with e' | e'
        · exact Or.inl (hGl k (Or.inr (Or.inl e')))
        · exact Or.inr (by omega)
      · exact Or.inl (hGl k (Or.inr (Or.inr e)))
    obtain ⟨g, mcap, rfl, _, _⟩ := own_form g1.mem (by omega)
    have hgl1 := g1.lt
    have hsz1 := g4.size
    obtain ⟨ad, cap, rfl, hc1, hc2⟩ := own_any g1.jo
    have c2 := g1.c2
    have f2 := g1.f2
    have hjl : js.length ≤ 4194304 := by omega
    have hmne : (Value.slice ad js.length cap).ownBlock ≠ some gb := fun e => (hG1.out.jne e).1 rfl
    clear g1 g4 g5 hB0 hB1 hG hGl
    obtain ⟨d0, d1, d2, _, _, _⟩ := blk3 b0.out
    obtain ⟨d3, d4, d5, _, _, _⟩ := blk3 b1.out
    have hb2 : Hid (Below w1.heap.size w1 (w1.alloc (.cells #[.int .i32 (u : Int), .int .i32 (lo : Int)] 264)).drew) := ((Below.refl w1.heap.size w1).alloc (Nat.le_refl _) _).drew
    have hS2 : Hid (∀ y, Below w1.heap.size w1 y → y.cell? ⟨gb, 2, none⟩ = some (.slice ad js.length cap) ∧ y.frozen? ⟨gb, 2, none⟩ = false) := fun y hy => ⟨(hG1.out.more hy).c2, (hG1.out.more hy).f2⟩
    go_upto_region 2 with fail
    go_cut [14] from 14 to 27 (fun _ wx => ∃ jv' : Value, Hid (Gr wx gb (.slice (some ⟨g, 0, none⟩) K1 mcap) jv' n K1 T (js ++ [(u, lo)]) ∧ Turned (own gb (.slice (some ⟨g, 0, none⟩) K1 mcap) (.slice ad js.length cap)) w1 wx ∧ Fresh w1 (.slice ad js.length cap) jv'))
    case first =>
      go_region_law (refine step_append_lies _ (by rfl) (.tmp 18) (.tmp 24) 253 (by rfl) 0 264 i0 _ 2 8 Tryz.underlying253 hif hz0 hz1 hz2 rfl (by decide) (.slice ad js.length cap) js.length (jcs js) (by rfl) (hG1.out.jo.drew.alloc _) ⟨w1.heap.size, 0, none⟩ 1 1 (jcs [(u, lo)]) (by rfl) rfl (jc_new w1 u lo) (jc_one _) (by decide) (by unfold maxLen; omega) (by omega) (Nat.zero_le _) (w1.heap.size + 1) (by simp) ?_; intro gj cap' w3 ho3 hg3 hat3 hlt3; obtain ⟨k3, k3f⟩ := s_grown (hS2.out _ hb2.out) hg3 hmne; have fin := hid (hG1.out.joined hjs hb2.out hg3 ho3 (by simpa using hat3)); clear ho3 hg3 hat3 hlt3)
      all_goals
        go_wp2_with fail
        go_meet
        case rel => exact ⟨_, fin⟩
    case rest =>
      obtain ⟨jv', fin⟩ := hcut
      clear d0 d1 d2 d3 d4 d5 c2 f2 hS2 hb2
      replace b0 := hid ((fin.out.2.1.block w.heap.size (by omega) (fun e => by have := hO1.out _ e; omega)).trans b0.out)
      replace b1 := hid ((fin.out.2.1.block (w.heap.size + 1) (by omega) (fun e => by have := hO1.out _ e; omega)).trans b1.out)
      have hgB : g ≠ w.heap.size ∧ g ≠ w.heap.size + 1 := by
        have := hO1.out g (Or.inr (Or.inl rfl))
        omega
      have hT4 : Turned (own gb mv (.slice ad js.length cap)) w wc := hT1.out.then fin.out.2.1 (fun i hi ho => by
        rcases ho with e | e | e
        · exact Or.inl e
        · rcases hF1.out i e with k | k
          · exact Or.inr (Or.inl k)
          · omega
        · exact Or.inr (Or.inr e))
      have hF4 : Fresh w (.slice ad js.length cap) jv' := fun i hi => by
        rcases fin.out.2.2 i hi with k | k
        · exact Or.inl k
        · exact Or.inr (by have := hT1.out.size; omega)
      have H4 : Hid (HG w wc gb n K1 g mcap mv (.slice ad js.length cap) jv' T (js ++ [(u, lo)]) #[.int .i32 (o : Int), .int .i32 (so : Int), .int .i32 (lo : Int)] #[.int .i32 (u : Int), .int .i32 (su : Int), .int .i32 (lu : Int)]) := ⟨fin.out.1, hT4, b0.out, b1.out, hF1.out, hF4, hgB⟩
      clear fin hT1 hO1 hT4 hF4 b0 b1
      go_upto_region 3 with fail
      go_cut [28] from 28 to 37 (fun _ wx => Hid (HG w wx gb n K1 g mcap mv (.slice ad js.length cap) jv' (upd T u ⟨o, su, lu⟩) (js ++ [(u, lo)]) #[.int .i32 (o : Int), .int .i32 (so : Int), .int .i32 (lo : Int)] #[.int .i32 (u : Int), .int .i32 (su : Int), .int .i32 (lu : Int)]))
      case first =>
        obtain ⟨d0, d1, d2, _, _, _⟩ := blk3 H4.out.b0
        obtain ⟨d3, d4, d5, _, _, _⟩ := blk3 H4.out.b1
        have c1 := H4.out.gr.c1
        obtain ⟨a0, _, _⟩ := H4.out.gr.at (i := u) (by omega)
        have z0 := H4.out.gr.mem.frozenAt (u * 3)
        have s5 := H4.out.set (i := u) 0 (u := .int .i32 (o : Int)) ⟨o, su, lu⟩ (by omega) (by decide) (by rw [htu.out]; rfl)
        simp only [Nat.add_zero] at s5
        replace s5 := hid s5
        go_region
        all_goals
          go_wp2_with fail
          go_meet
          case rel => exact s5
      case rest =>
        clear H4
        have H4 := hcut
        clear hcut
        go_upto_region 4 with fail
        go_cut [38] from 38 to 51 (fun _ wx => Hid (HG w wx gb n K1 g mcap mv (.slice ad js.length cap) jv' (upd (upd T u ⟨o, su, lu⟩) o ⟨o, so + su, lo⟩) (js ++ [(u, lo)]) #[.int .i32 (o : Int), .int .i32 (so : Int), .int .i32 (lo : Int)] #[.int .i32 (u : Int), .int .i32 (su : Int), .int .i32 (lu : Int)]))
        case first =>
          obtain ⟨d0, d1, d2, _, _, _⟩ := blk3 H4.out.b0
          obtain ⟨d3, d4, d5, _, _, _⟩ := blk3 H4.out.b1
          have c1 := H4.out.gr.c1
          have a1 := (H4.out.gr.at (i := o) (by omega)).2.1
          rw [upd_ne ne, hto.out] at a1
          simp only [] at a1
          have z1 := H4.out.gr.mem.frozenAt (o * 3 + 1)
          have s5 := hid (H4.out.set (i := o) 1 (u := .int .i32 ((so + su : Nat) : Int)) ⟨o, so + su, lo⟩ (by omega) (by decide) (by rw [upd_ne ne, hto.out]; rfl))
          have hwr : IntKind.i32.wrap ((so : Int) + (su : Int)) = ((so + su : Nat) : Int) := by rw [IntKind.wrap_i32]; omega
          go_region
          all_goals
            go_wp2_with fail
            go_meet
            case rel => exact s5
        case rest =>
          clear H4
          have H4 := hcut
          clear hcut
          go_upto_region 5 with fail
          obtain ⟨d0, d1, d2, _, _, _⟩ := blk3 H4.out.b0
          obtain ⟨d3, d4, d5, _, _, _⟩ := blk3 H4.out.b1
          have c1 := H4.out.gr.c1
          have a1 := (H4.out.gr.at (i := o) (by omega)).2.2
          rw [upd_same] at a1
          simp only [] at a1
          have z1 := H4.out.gr.mem.frozenAt (o * 3 + 2)
          have s5 : Hid (∀ m : Nat, min lo lu = m → HG w (wc.setCell ⟨g, o * 3 + 2, none⟩ (.int .i32 (m : Int))).drew gb n K1 g mcap mv (.slice ad js.length cap) jv' (hangT T o u) (js ++ [(u, lo)]) #[.int .i32 (o : Int), .int .i32 (so : Int), .int .i32 (lo : Int)] #[.int .i32 (u : Int), .int .i32 (su : Int), .int .i32 (lu : Int)]) := fun m hm => by
            rw [← hst.out, hm]
            exact H4.out.set (i := o) 2 (u := .int .i32 ((m : Nat) : Int)) ⟨o, so + su, m⟩ (by omega) (by decide) (by rw [upd_same]; rfl)
          rcases Nat.lt_or_ge lu lo with k2 | k2
          · replace s5 := hid (s5.out lu (by omega))
            go_region
            all_goals
              go_wp2_with fail
              go_end0
              exact ⟨rfl, K1, _, jv', s5.out.gr, s5.out.tu, s5.out.fm, s5.out.fj⟩
          · replace s5 := hid (s5.out lo (by omega))
            go_region
            all_goals
              go_wp2_with fail
              go_end0
              exact ⟨rfl, K1, _, jv', s5.out.gr, s5.out.tu, s5.out.fm, s5.out.fj⟩

end Go.Proofs.YtboafgimjadboaaGreatDoor.Un

namespace Go.Proofs.YtboafgimjadboaaGreatDoor.Un
open Go.RowKit
set_option linter.unusedVariables false

/-- Inside 'undo': the Groups, what has turned since w, the box. -/
structure UG (w wx : World) (gb n K g mcap : Nat) (jv jv' : Value) (T : Tb) (js : List (Nat × Nat)) (u l : Nat) : Prop where
  gr : Gr wx gb (.slice (some ⟨g, 0, none⟩) K mcap) jv' n K T js
  tu : Turned (own gb (.slice (some ⟨g, 0, none⟩) K mcap) jv) w wx
  b0 : wx.heap[w.heap.size]? = some (.cells #[.int .i32 (u : Int), .int .i32 (l : Int)] 264 (0, 0))
  fj : Fresh w jv jv'
  gl : g < w.heap.size

theorem UG.drew {w wx : World} {gb n K g mcap : Nat} {jv jv' : Value} {T : Tb} {js : List (Nat × Nat)} {u l : Nat} (h : UG w wx gb n K g mcap jv jv' T js u l) : UG w wx.drew gb n K g mcap jv jv' T js u l := ⟨h.gr.more (Below.refl _ _).drew, h.tu.drew, h.b0, h.fj, h.gl⟩

end Go.Proofs.YtboafgimjadboaaGreatDoor.Un

namespace Go.Proofs.YtboafgimjadboaaGreatDoor.Un
open Go.RowKit
set_option linter.unusedVariables false

/-- Groups with all that was, the newest first, in blocks of O. -/
structure GA (w : World) (gb n : Nat) (hs : List (Nat → Nat)) (O : Nat → Prop) : Prop where
  st : ∃ mv jv K T js, Gr w gb mv jv n K T js ∧ Hi n T js hs ∧ ∀ k, own gb mv jv k → O k

theorem GA.of {w w' : World} {gb n : Nat} {hs : List (Nat → Nat)} {O S : Nat → Prop} (h : GA w gb n hs O) (ht : Turned S w w') (ho : ∀ k, k < w.heap.size → O k → ¬ S k) : GA w' gb n hs O := by
  obtain ⟨mv, jv, K, T, js, h1, h2, h3⟩ := h.st
  exact ⟨mv, jv, K, T, js, h1.of ht (fun k hk => ho k (h1.olt hk) (h3 k hk)), h2, h3⟩

theorem GA.more {w w' : World} {gb n : Nat} {hs : List (Nat → Nat)} {O : Nat → Prop} (h : GA w gb n hs O) (hb : Below w.heap.size w w') : GA w' gb n hs O := h.of (Turned.ofBelow hb (fun _ => False)) (fun _ _ _ e => e)

theorem GA.hn {w : World} {gb n : Nat} {hs : List (Nat → Nat)} {O : Nat → Prop} (h : GA w gb n hs O) : n ≤ 4194304 := by
  obtain ⟨mv, jv, K, T, js, h1, h2, h3⟩ := h.st
  exact h1.hn

set_option maxRecDepth 100000 in
set_option maxHeartbeats 1000000 in
theorem new_ok (n : Nat) (w : World) (h1 : 1 ≤ n) (h2 : n ≤ 4194304) : Calls Tryz.prog 127 #[.int .i64 (n : Int)] w fun e w' => e = .returned (.tuple #[.pointer (some ⟨w.heap.size, 0, none⟩), .nilIface]) ∧ GA w' w.heap.size n [fun x => x] (fun k => k = w.heap.size) ∧ Below w.heap.size w w' := by
  have t1 : decide ((n : Int) < 1) = false := decide_eq_false (by omega)
  have t2 : decide (4194304 < (n : Int)) = false := decide_eq_false (by omega)
  go_enter Tryz.func127, Tryz.ntmps127
  go_wp2_with fail
  go_ret2
  refine ⟨rfl, ⟨.slice none 0 0, .slice none 0 0, 0, alone, [], ⟨heap_alloc_new _ _, World.ownsRow_nil _ _ _ _, World.ownsRow_nil _ _ _ _, fun _ _ => rfl, Nat.zero_le _, by simp; omega, h2⟩, Hi.new, fun k hk => ?_⟩, (Below.refl _ _).alloc (Nat.le_refl _) _⟩
  rcases hk with e | e | e
  · exact e
  · cases e
  · cases e

theorem nums1 (w : World) (a : Int) : Nums (w.alloc (.cells #[.int .i64 a] 3)) w.heap.size [a] := heap_alloc_new _ _
theorem nums2 (w : World) (a b : Int) : Nums (w.alloc (.cells #[.int .i64 a, .int .i64 b] 3)) w.heap.size [a, b] := heap_alloc_new _ _
theorem balloc (w : World) (o : Obj) : Below w.heap.size w (w.alloc o) := (Below.refl _ _).alloc (Nat.le_refl _) o

section
variable {w : World} {gb n : Nat} {f : Nat → Nat} {fs : List (Nat → Nat)} {O : Nat → Prop}

/-- What 'look' and 'top' answer of members that are. -/
theorem GA.tops (h : GA w gb n (f :: fs) O) : ∃ (r : Nat → Nat) (T : Tb), (∀ y, Below w.heap.size w y → ∀ x, x < n → Calls Tryz.prog 130 #[.pointer (some ⟨gb, 0, none⟩), .int .i64 (x : Int)] y fun e w' => ∃ s l : Nat, T (r x) = ⟨r x, s, l⟩ ∧ e = .returned (.agg #[.int .i32 (r x : Int), .int .i32 (s : Int), .int .i32 (l : Int)]) ∧ s = cnt (fun y => f y == f x) n ∧ l = f x ∧ s ≤ n ∧ l < n ∧ Below y.heap.size y w') ∧
    (∀ x y, x < n → y < n → (f x = f y ↔ r x = r y)) ∧ (∀ y, Below w.heap.size w y → y.cell? ⟨gb, 0, none⟩ = some (.int .i64 (n : Int))) ∧ (∀ x, x < n → r x < n) ∧ n ≤ 4194304 := by
  obtain ⟨mv, jv, K, T, js, h1, h2, h3⟩ := h.st
  obtain ⟨_, _, r, d, e, ok, _, _⟩ := h2.ok
  obtain ⟨rfl, rfl⟩ : f = _ ∧ fs = _ := by simpa using e
  refine ⟨r, T, fun y hy x hx => (top_ok gb n K x mv jv T js r d f _ (h1.more hy) ok hx).mono ?_, fun x y hx hy => ok.same x y hx hy, fun y hy => (h1.more hy).c0, ok.top, h1.hn⟩
  rintro e w' ⟨rfl, b⟩
  have hf := ok.fle x hx
  refine ⟨(T (r x)).size, (T (r x)).least, ?_, by show Ending.returned (.agg #[.int .i32 ((T (r x)).up : Int), _, _]) = _; rw [ok.isTop hx], ok.size x hx, ok.least x hx, (ok.size1 hx).2, by rw [ok.least x hx]; omega, b⟩
  conv => rhs; arg 1; rw [← ok.isTop hx]



set_option maxRecDepth 100000 in
set_option maxHeartbeats 1000000 in
theorem GA.least (h : GA w gb n (f :: fs) O) (x : Nat) (hx : x < n) :
    Calls Tryz.prog 108 #[.pointer (some ⟨gb, 0, none⟩), .int .i64 (x : Int)] w fun e w' => e = .returned (.tuple #[.int .i64 (f x : Int), .nilIface]) ∧ Below w.heap.size w w' := by
  obtain ⟨r, T, ht, hsame, hc0, hrn, hn⟩ := h.tops
  have hl := look_ok gb w.heap.size n [(x : Int)] _ (hc0 _ (balloc w _)) (nums1 w x) (by simp) (by simp; omega)
  have htx := ht _ (balloc w (.cells #[.int .i64 (x : Int)] 3)) x hx
  clear h ht hsame hc0
  go_enter Tryz.func108, Tryz.ntmps108
  go_wp2_with fail
  refine hl.mono ?_
  rintro e w1 ⟨rfl, rfl⟩
  go_wp2_with fail
  refine htx.mono ?_
  rintro e w1 ⟨s, l, _, rfl, hs, hl, hs2, hl2, b1⟩
  replace hs := hid hs
  replace hl := hid hl
  have hfd : ∀ w : World, (Instr.field 242 (.agg #[.int .i32 (r x : Int), .int .i32 (s : Int), .int .i32 (l : Int)]) 2).run Tryz.prog w = .ok (.int .i32 (l : Int)) w := fun _ => by kernel_rfl
  go_wp2_with fail
  go_ret2
  exact ⟨by rw [← hl.out]; rfl, (balloc w _).trans (b1.mono (by simp))⟩



end

end Go.Proofs.YtboafgimjadboaaGreatDoor.Un

namespace Go.Proofs.YtboafgimjadboaaGreatDoor.Un
open Go.RowKit
set_option linter.unusedVariables false

theorem Hi.room {n : Nat} {T : Tb} {js : List (Nat × Nat)} {hs : List (Nat → Nat)} (h : Hi n T js hs) (hn : 0 < n) : js.length < n := by
  obtain ⟨f, fs, r, d, rfl, ok, h1, h2⟩ := h.ok
  have : 1 ≤ fix n f := cnt_pos (i := 0) hn (by have := ok.fle 0 hn; simp; omega)
  omega

section
variable {w : World} {gb n : Nat} {f : Nat → Nat} {fs hs : List (Nat → Nat)} {O : Nat → Prop}

theorem GA.c0 (h : GA w gb n hs O) : ∀ y, Below w.heap.size w y → y.cell? ⟨gb, 0, none⟩ = some (.int .i64 (n : Int)) := by
  obtain ⟨mv, jv, K, T, js, h1, h2, h3⟩ := h.st
  exact fun y hy => (h1.more hy).c0



/-- What the history is behind Join. -/
def stepH (f : Nat → Nat) (fs : List (Nat → Nat)) (a b : Nat) : List (Nat → Nat) := if f a = f b then f :: fs else jn f a b :: f :: fs

set_option maxRecDepth 100000 in
set_option maxHeartbeats 2000000 in
theorem GA.join (h : GA w gb n (f :: fs) O) (a b : Nat) (ha : a < n) (hb : b < n) :
    Calls Tryz.prog 128 #[.pointer (some ⟨gb, 0, none⟩), .int .i64 (a : Int), .int .i64 (b : Int)] w fun e w' => e = .returned (.tuple #[.bool (!decide (f a = f b)), .nilIface]) ∧ ∃ O', GA w' gb n (stepH f fs a b) O' ∧ Turned O w w' ∧ ∀ k, O' k → O k ∨ w.heap.size ≤ k := by
  have hc0 := h.c0
  have hn := h.hn
  obtain ⟨mv, jv, K, T, js, h1, h2, h3⟩ := h.st
  obtain ⟨_, _, r, d, e, ok, h4, h5⟩ := h2.ok
  obtain ⟨rfl, rfl⟩ : f = _ ∧ fs = _ := by simpa using e
  have hl := look_ok gb w.heap.size n [(a : Int), (b : Int)] _ (hc0 _ (balloc w _)) (nums2 w a b) (by simp) (by simp; omega)
  have ht : ∀ y, Below w.heap.size w y → ∀ x, x < n → Calls Tryz.prog 130 #[.pointer (some ⟨gb, 0, none⟩), .int .i64 (x : Int)] y fun e w' => ∃ s l : Nat, T (r x) = ⟨r x, s, l⟩ ∧ e = .returned (.agg #[.int .i32 (r x : Int), .int .i32 (s : Int), .int .i32 (l : Int)]) ∧ s ≤ n ∧ l < n ∧ Below y.heap.size y w' := fun y hy x hx => by
    refine (top_ok gb n K x mv jv T js r d f _ (h1.more hy) ok hx).mono ?_
    rintro e w' ⟨rfl, b⟩
    have hf := ok.fle x hx
    refine ⟨(T (r x)).size, (T (r x)).least, ?_, by show Ending.returned (.agg #[.int .i32 ((T (r x)).up : Int), _, _]) = _; rw [ok.isTop hx], (ok.size1 hx).2, by rw [ok.least x hx]; omega, b⟩
    conv => rhs; arg 1; rw [← ok.isTop hx]
  have hta := ht _ (balloc w (.cells #[.int .i64 (a : Int), .int .i64 (b : Int)] 3)) a ha
  have htb := hid (fun y hy => ht y hy b hb)
  have hsame := hid (ok.same a b ha hb)
  have hra := ok.top a ha
  have hrb := ok.top b hb
  have hang : Hid (∀ o u, (o = r a ∧ u = r b) ∨ (o = r b ∧ u = r a) → f a ≠ f b → ∀ so su lo lu, T o = ⟨o, so, lo⟩ → T u = ⟨u, su, lu⟩ → ∀ y, Below w.heap.size w y → Calls Tryz.prog 138 #[.pointer (some ⟨gb, 0, none⟩), .agg #[.int .i32 (o : Int), .int .i32 (so : Int), .int .i32 (lo : Int)], .agg #[.int .i32 (u : Int), .int .i32 (su : Int), .int .i32 (lu : Int)]] y fun e w' =>
      e = .returned (.tuple #[]) ∧ ∃ O', GA w' gb n (stepH f fs a b) O' ∧ Turned O w w' ∧ ∀ k, O' k → O k ∨ w.heap.size ≤ k) := by
    intro o u hou fne so su lo lu eo eu y hy
    have ho : o < n := by rcases hou with ⟨rfl, rfl⟩ | ⟨rfl, rfl⟩ <;> assumption
    have hu : u < n := by rcases hou with ⟨rfl, rfl⟩ | ⟨rfl, rfl⟩ <;> assumption
    have hne : o ≠ u := by
      rcases hou with ⟨rfl, rfl⟩ | ⟨rfl, rfl⟩
      · exact fun e => fne (hsame.out.2 e)
      · exact fun e => fne (hsame.out.2 e.symm)
    have to1 : (T o).up = o := by rw [eo]
    have tu1 : (T u).up = u := by rw [eu]
    have hj := h2.join o u ho hu to1 tu1 hne
    have hroom := hj.room (by omega)
    rw [eo] at hj
    simp only [] at hj
    have ro : r o = o := (ok.self o ho).1 to1
    have ru : r u = u := (ok.self u hu).1 tu1
    have fou : f o ≠ f u := fun e => hne (by have := (ok.same o u ho hu).1 e; omega)
    have s2 := ok.two ho hu fou
    rw [ro, ru, eo, eu] at s2
    have l1 := ok.least o ho
    have l2 := ok.least u hu
    have q1 := ok.fle o ho
    have q2 := ok.fle u hu
    rw [ro, eo] at l1
    rw [ru, eu] at l2
    simp only [] at l1 l2 s2
    have hst : stepH f fs a b = jn f o u :: f :: fs := by
      unfold stepH
      rw [if_neg fne]
      congr 1
      rcases hou with ⟨rfl, rfl⟩ | ⟨rfl, rfl⟩
      · exact jn_of (ok.fr ha).symm (ok.fr hb).symm
      · rw [jn_comm]; exact jn_of (ok.fr hb).symm (ok.fr ha).symm
    refine (hang_ok gb n K o u so su lo lu mv jv T js y (h1.more hy) ho hu eo eu hne s2 (by omega) (by omega) (by simpa using hroom)).mono ?_
    rintro e w' ⟨rfl, K', mv', jv', g1, g2, g3, g4⟩
    refine ⟨rfl, own gb mv' jv', ⟨mv', jv', K', _, _, g1, by rw [hst]; exact hj, fun k hk => hk⟩, (Turned.ofBelow hy O).trans (g2.mono h3), fun k hk => ?_⟩
    rcases hk with e | e | e
    · exact Or.inl (h3 k (Or.inl e))
    · rcases g3 k e with k' | k'
      · exact Or.inl (h3 k (Or.inr (Or.inl k')))
      · exact Or.inr (by have := hy.size; omega)
    · rcases g4 k e with k' | k'
      · exact Or.inl (h3 k (Or.inr (Or.inr k')))
      · exact Or.inr (by have := hy.size; omega)
  have hdone : Hid (f a = f b → ∀ y, Below w.heap.size w y → ∃ O', GA y gb n (stepH f fs a b) O' ∧ Turned O w y ∧ ∀ k, O' k → O k ∨ w.heap.size ≤ k) := by
    intro e y hy
    refine ⟨O, ?_, Turned.ofBelow hy O, fun k hk => Or.inl hk⟩
    unfold stepH
    rw [if_pos e]
    exact h.more hy
  clear h h1 h2 h3 h4 h5 ok hc0 ht
  go_enter Tryz.func128, Tryz.ntmps128
  go_wp2_with fail
  refine hl.mono ?_
  rintro e w1 ⟨rfl, rfl⟩
  go_wp2_with fail
  refine hta.mono ?_
  rintro e w1 ⟨s, l, e1, rfl, hs2, hl2, b1⟩
  replace e1 := hid e1
  have hb1 : Hid (Below w.heap.size w w1) := (balloc w _).trans (b1.mono (by simp))
  clear b1
  go_wp2_with fail
  refine (htb.out _ hb1.out).mono ?_
  rintro e w2 ⟨s', l', e2, rfl, hs2', hl2', b2⟩
  have hb2 : Hid (Below w.heap.size w w2) := hb1.out.trans (b2.mono hb1.out.size)
  clear hta htb hb1 b2
  replace e2 := hid e2
  by_cases hr : r a = r b
  · have hf := hid (hsame.out.2 hr)
    replace e1 := e1.out
    rw [hr, e2.out] at e1
    simp only [Mb.mk.injEq, true_and] at e1
    obtain ⟨rfl, rfl⟩ := e1
    rw [hr]
    clear hr
    go_wp2_with fail
    go_ret2
    exact ⟨by rw [decide_eq_true hf.out]; rfl, hdone.out hf.out _ ((hb2.out.alloc hb2.out.size _).alloc (by have := hb2.out.size; simp; omega) _)⟩
  · have hf : Hid (f a ≠ f b) := fun e => hr (hsame.out.1 e)
    have hr' : ¬ ((r a : Int) = (r b : Int)) := by omega
    clear hr
    have hbb : Hid (∀ x y, Below w.heap.size w ((w2.alloc x).alloc y)) := fun x y => (hb2.out.alloc hb2.out.size _).alloc (by have := hb2.out.size; simp; omega) _
    by_cases hlt : s < s'
    · have t1 : decide ((s : Int) < (s' : Int)) = true := decide_eq_true (by omega)
      go_wp2_with fail
      refine (hang.out _ _ (Or.inr ⟨rfl, rfl⟩) hf.out s' s l' l e2.out e1.out _ ?_).mono ?_
      · exact hbb.out _ _
      · rintro e w3 ⟨rfl, fin⟩
        replace fin := hid fin
        go_wp2_with fail
        go_ret2
        exact ⟨by rw [decide_eq_false hf.out]; rfl, fin.out⟩
    · have t1 : decide ((s : Int) < (s' : Int)) = false := decide_eq_false (by omega)
      go_wp2_with fail
      refine (hang.out _ _ (Or.inl ⟨rfl, rfl⟩) hf.out s s' l l' e1.out e2.out _ ?_).mono ?_
      · exact hbb.out _ _
      · rintro e w3 ⟨rfl, fin⟩
        replace fin := hid fin
        go_wp2_with fail
        go_ret2
        exact ⟨by rw [decide_eq_false hf.out]; rfl, fin.out⟩

end

end Go.Proofs.YtboafgimjadboaaGreatDoor.Un
