/- Models in memory. model's live and standsAt, walked. Two edges compared as a whole. model's told, walked. -/
import Derived.Test.YtboafgimjadboaaGreatDoorArBlist
import Derived.Test.YtboafgimjadboaaGreatDoorBface
import Derived.Test.YtboafgimjadboaaGreatDoorBmo
import Derived.Test.YtboafgimjadboaaGreatDoorIntsM10
import Derived.Deep.QuietTactic
import Derived.BigQuiet
namespace Go.Proofs.YtboafgimjadboaaGreatDoor
open Go.RowKit
set_option linter.unusedVariables false

/-- A slice of places, to be read. -/
structure Pr (w : World) (ad : Option Addr) (n : Nat) (ps : List (Int × Int)) : Prop where
  len : ps.length = n
  num : ∀ p, p ∈ ps → 0 ≤ p.1 ∧ p.1 < 4294967296
  cell : ∀ (j : Nat) p, ps[j]? = some p → ∃ b o, ad = some ⟨b, o, none⟩ ∧ w.cell? ⟨b, o + j * 2, none⟩ = some (.int .u32 p.1) ∧ w.cell? ⟨b, o + j * 2 + 1, none⟩ = some (.int .i64 p.2)

theorem Pr.below {w w' : World} {ad : Option Addr} {n : Nat} {ps : List (Int × Int)} (h : Pr w ad n ps) (hb : Below w.heap.size w w') : Pr w' ad n ps :=
  ⟨h.len, h.num, fun j z hz => by
    obtain ⟨b, o, h1, h2, h3⟩ := h.cell j z hz
    exact ⟨b, o, h1, (hb.cell (World.block_lt_of_cell? w _ h2)).trans h2, (hb.cell (World.block_lt_of_cell? w _ h3)).trans h3⟩⟩

def PV (w : World) (v : Value) (ps : List (Int × Int)) : Prop := ∃ ad n cap, v = .slice ad n cap ∧ Pr w ad n ps ∧ (ad = none → cap = 0) ∧ n ≤ cap ∧ cap ≤ maxLen

theorem PV.below {w w' : World} {v : Value} {ps : List (Int × Int)} (h : PV w v ps) (hb : Below w.heap.size w w') : PV w' v ps := by
  obtain ⟨ad, n, cap, h1, h2, h3⟩ := h
  exact ⟨ad, n, cap, h1, h2.below hb, h3⟩

/-- A slice of edges, to be read. -/
structure Egs (w : World) (ad : Option Addr) (n : Nat) (l : List Eg) : Prop where
  len : l.length = n
  num : ∀ x, x ∈ l → x.f0 < 4294967296 ∧ x.f1 < 4294967296 ∧ x.n0 < 4294967296 ∧ x.n1 < 4294967296 ∧ -2147483648 ≤ x.w ∧ x.w ≤ 2147483647
  cell : ∀ (j : Nat) x, l[j]? = some x → ∃ b o, ad = some ⟨b, o, none⟩ ∧ w.cell? ⟨b, o + j * 5, none⟩ = some (.int .u32 (x.f0 : Int)) ∧ w.cell? ⟨b, o + j * 5 + 1, none⟩ = some (.int .u32 (x.f1 : Int)) ∧ w.cell? ⟨b, o + j * 5 + 2, none⟩ = some (.int .u32 (x.n0 : Int)) ∧ w.cell? ⟨b, o + j * 5 + 3, none⟩ = some (.int .u32 (x.n1 : Int)) ∧ w.cell? ⟨b, o + j * 5 + 4, none⟩ = some (.int .i32 x.w)

theorem Egs.below {w w' : World} {ad : Option Addr} {n : Nat} {l : List Eg} (h : Egs w ad n l) (hb : Below w.heap.size w w') : Egs w' ad n l :=
  ⟨h.len, h.num, fun j z hz => by
    obtain ⟨b, o, h1, h2, h3, h4, h5, h6⟩ := h.cell j z hz
    exact ⟨b, o, h1, (hb.cell (World.block_lt_of_cell? w _ h2)).trans h2, (hb.cell (World.block_lt_of_cell? w _ h3)).trans h3, (hb.cell (World.block_lt_of_cell? w _ h4)).trans h4, (hb.cell (World.block_lt_of_cell? w _ h5)).trans h5, (hb.cell (World.block_lt_of_cell? w _ h6)).trans h6⟩⟩

def EgV (w : World) (v : Value) (l : List Eg) : Prop := ∃ ad n cap, v = .slice ad n cap ∧ Egs w ad n l ∧ n ≤ cap ∧ cap ≤ maxLen

theorem EgV.below {w w' : World} {v : Value} {l : List Eg} (h : EgV w v l) (hb : Below w.heap.size w w') : EgV w' v l := by
  obtain ⟨ad, n, cap, h1, h2, h3⟩ := h
  exact ⟨ad, n, cap, h1, h2.below hb, h3⟩

/-- The parts of a model's value. -/
structure Mp (w : World) (vv ev lv : Value) (m : Mo) : Prop where
  vs : PV w vv m.vs
  es : PV w ev m.es
  l : EgV w lv m.l

theorem Mp.below {w w' : World} {vv ev lv : Value} {m : Mo} (h : Mp w vv ev lv m) (hb : Below w.heap.size w w') : Mp w' vv ev lv m := ⟨h.vs.below hb, h.es.below hb, h.l.below hb⟩

theorem PV.prow {w : World} {ad : Option Addr} {n cap : Nat} {ps : List (Int × Int)} (h : Pr w ad n ps) (hn : n ≤ maxLen) : Ar.Prow w ad ps := by
  refine ⟨fun e => ?_, by rw [h.len]; unfold maxLen at hn; omega, fun j p hp => h.num p (List.mem_of_getElem? hp), fun a e j p hp => ?_⟩
  · cases ps with
    | nil => rfl
    | cons p l =>
      obtain ⟨b, o, h1, _⟩ := h.cell 0 p rfl
      rw [e] at h1; cases h1
  · obtain ⟨b, o, h1, h2, h3⟩ := h.cell j p hp
    rw [e] at h1
    cases h1
    rw [add_plain, add_plain]
    exact ⟨h2, h3⟩

/-- Edges as cells. -/
def ecs : List Eg → List Value
  | [] => []
  | x :: l => .int .u32 (x.f0 : Int) :: .int .u32 (x.f1 : Int) :: .int .u32 (x.n0 : Int) :: .int .u32 (x.n1 : Int) :: .int .i32 x.w :: ecs l

theorem ecs_length : ∀ l, (ecs l).length = l.length * 5
  | [] => rfl
  | q :: l => by simp only [ecs, List.length_cons, ecs_length l]; omega

theorem ecs_append : ∀ a b, ecs (a ++ b) = ecs a ++ ecs b
  | [], b => rfl
  | q :: a, b => by simp only [List.cons_append, ecs, ecs_append a b]

theorem ecs_get : ∀ (l : List Eg) (j : Nat) (q : Eg), l[j]? = some q → (ecs l)[j * 5]? = some (.int .u32 (q.f0 : Int)) ∧ (ecs l)[j * 5 + 1]? = some (.int .u32 (q.f1 : Int)) ∧ (ecs l)[j * 5 + 2]? = some (.int .u32 (q.n0 : Int)) ∧ (ecs l)[j * 5 + 3]? = some (.int .u32 (q.n1 : Int)) ∧ (ecs l)[j * 5 + 4]? = some (.int .i32 q.w)
  | [], j, q, h => by simp at h
  | r :: l, 0, q, h => by
    simp at h
    subst h
    exact ⟨rfl, rfl, rfl, rfl, rfl⟩
  | r :: l, j + 1, q, h => by
    have ih := ecs_get l j q (by simpa using h)
    rw [show (j + 1) * 5 = j * 5 + 5 from by omega]
    simp only [ecs]
    exact ⟨by simpa using ih.1, by simpa using ih.2.1, by simpa using ih.2.2.1, by simpa using ih.2.2.2.1, by simpa using ih.2.2.2.2⟩


theorem egv_of {t : TypeId} {base : Nat} {w : World} {v : Value} {l : List Eg} (h : w.ownsRow base t 5 v l.length (ecs l)) (hn : ∀ x, x ∈ l → En x) : EgV w v l := by
  rcases h.2 with ⟨rfl, h0⟩ | ⟨g, cap, cur, rfl, _, hg, h1, h2, _⟩
  · have : l = [] := List.eq_nil_of_length_eq_zero h0
    subst this
    exact ⟨none, 0, 0, rfl, ⟨rfl, fun x hx => by simp at hx, fun j z hz => by simp at hz⟩, Nat.le_refl _, Nat.zero_le _⟩
  · refine ⟨some ⟨g, 0, none⟩, l.length, cap, rfl, ⟨rfl, hn, fun j z hz => ?_⟩, h1, h2⟩
    have hj := (List.getElem?_eq_some_iff.1 hz).1
    obtain ⟨e1, e2, e3, e4, e5⟩ := ecs_get l j z hz
    refine ⟨g, 0, rfl, ?_, ?_, ?_, ?_, ?_⟩
    · rw [Nat.zero_add, h.cellAt _ (by omega)]; exact e1
    · rw [Nat.zero_add, h.cellAt _ (by omega)]; exact e2
    · rw [Nat.zero_add, h.cellAt _ (by omega)]; exact e3
    · rw [Nat.zero_add, h.cellAt _ (by omega)]; exact e4
    · rw [Nat.zero_add, h.cellAt _ (by omega)]; exact e5

theorem pv_of {t : TypeId} {base : Nat} {w : World} {v : Value} {ps : List (Int × Int)} (h : w.ownsRow base t 2 v ps.length (Ar.pcs ps)) (hn : ∀ p, p ∈ ps → 0 ≤ p.1 ∧ p.1 < 4294967296) : PV w v ps := by
  rcases h.2 with ⟨rfl, h0⟩ | ⟨g, cap, cur, rfl, _, hg, h1, h2, _⟩
  · have : ps = [] := List.eq_nil_of_length_eq_zero h0
    subst this
    exact ⟨none, 0, 0, rfl, ⟨rfl, fun x hx => by simp at hx, fun j z hz => by simp at hz⟩, fun _ => rfl, Nat.le_refl _, Nat.zero_le _⟩
  · refine ⟨some ⟨g, 0, none⟩, ps.length, cap, rfl, ⟨rfl, hn, fun j z hz => ?_⟩, (fun e => by cases e), h1, h2⟩
    have hj := (List.getElem?_eq_some_iff.1 hz).1
    obtain ⟨e1, e2⟩ := Ar.pcs_get ps j z hz
    refine ⟨g, 0, rfl, ?_, ?_⟩
    · rw [Nat.zero_add, h.cellAt _ (by omega)]; exact e1
    · rw [Nat.zero_add, h.cellAt _ (by omega)]; exact e2

/-- What a dart's edge tells. -/
theorem EgV.dart {w : World} {v : Value} {m : Mo} (h : EgV w v m.l) {d : Nat} (hd : d < m.k) : ∃ b o cap, v = .slice (some ⟨b, o, none⟩) m.l.length cap ∧ m.l.length ≤ cap ∧ cap ≤ maxLen ∧ w.cell? ⟨b, o + d / 2 * 5 + d % 2, none⟩ = some (.int .u32 (m.fr d : Int)) ∧ w.cell? ⟨b, o + d / 2 * 5 + 2 + d % 2, none⟩ = some (.int .u32 (m.nd d : Int)) ∧ m.fr d < 4294967296 ∧ m.nd d < 4294967296 := by
  obtain ⟨ad, n, cap, rfl, hr, h1, h2⟩ := h
  have hl : d / 2 < m.l.length := by unfold Mo.k at hd; omega
  obtain ⟨x, hx⟩ : ∃ x, m.l[d / 2]? = some x := ⟨_, List.getElem?_eq_getElem hl⟩
  obtain ⟨b, o, rfl, c0, c1, c2, c3, _⟩ := hr.cell _ x hx
  obtain ⟨n0, n1, n2, n3, _⟩ := hr.num x (List.mem_of_getElem? hx)
  have hlen := hr.len
  refine ⟨b, o, cap, by rw [hlen], by omega, h2, ?_⟩
  unfold Mo.fr Mo.nd
  rw [Mo.eg_at hx]
  unfold Eg.fr Eg.nx
  rcases Nat.mod_two_eq_zero_or_one d with q | q
  · rw [q]; exact ⟨c0, c2, n0, n2⟩
  · rw [q]; exact ⟨c1, c3, n1, n3⟩

end Go.Proofs.YtboafgimjadboaaGreatDoor

namespace Go.Proofs.YtboafgimjadboaaGreatDoor
open Go.RowKit
set_option linter.unusedVariables false

theorem wu64 (i : Nat) (h : i < 9223372036854775808) : IntKind.u64.wrap (i : Int) = (i : Int) := by rw [Wi.wrapU]; omega
theorem wu32 (i : Nat) (h : i < 4294967296) : IntKind.u32.wrap (i : Int) = (i : Int) := by rw [Wi.wrapU32]; omega

set_option maxRecDepth 100000 in
set_option maxHeartbeats 1000000 in
theorem live_ok {w : World} {v : Value} {ps : List (Int × Int)} (hv : PV w v ps) (i : Nat) (hi : i < 4294967296) (z : Bool) (hz : z = true ↔ Lv ps i) :
    Calls Tryz.prog 51 #[v, .int .u32 (i : Int)] w fun e w' => e = .returned (.bool z) ∧ w = w' := by
  obtain ⟨ad, n, cap, rfl, hr, h0, h1, h2⟩ := hv
  have w1 := wu64 i (by omega)
  have w2 := wu64 n (by unfold maxLen at h2; omega)
  by_cases h : i < n
  · have t1 : decide ((i : Int) < (n : Int)) = true := decide_eq_true (by omega)
    have t2 : decide (i < n) = true := decide_eq_true h
    obtain ⟨p, hp⟩ : ∃ p, ps[i]? = some p := ⟨_, List.getElem?_eq_getElem (by rw [hr.len]; exact h)⟩
    obtain ⟨b, o, rfl, c0, c1⟩ := hr.cell i p hp
    have hz' : z = (p.2 == 1) := by
      rw [Bool.eq_iff_iff, hz]
      unfold Lv
      rw [hp]
      simp
    subst hz'
    clear hz hr h0 hp c0
    go_enter Tryz.func51, Tryz.ntmps51
    go_wp2_with fail
    go_ret
    exact ⟨rfl, rfl⟩
  · have t1 : decide ((i : Int) < (n : Int)) = false := decide_eq_false (by omega)
    have t2 : decide (i < n) = false := decide_eq_false h
    have hz' : z = false := by
      cases z with
      | false => rfl
      | true => have := (hz.1 rfl).lt; rw [hr.len] at this; omega
    subst hz'
    clear hz hr h0
    go_enter Tryz.func51, Tryz.ntmps51
    go_wp2_with fail
    go_ret
    exact ⟨rfl, rfl⟩

/-- A model in a block of its own. -/
def Bxd (y : World) (bx : Nat) (n : Int) (vv ev lv : Value) : Prop := y.cell? ⟨bx, 0, none⟩ = some (.int .i64 n) ∧ y.cell? ⟨bx, 1, none⟩ = some vv ∧ y.cell? ⟨bx, 2, none⟩ = some ev ∧ y.cell? ⟨bx, 3, none⟩ = some lv

theorem boxed {w y : World} {cs : Array Value} {t : TypeId} {k : Nat} {u : Value} (hy : Below (w.alloc (.cells cs t)).heap.size (w.alloc (.cells cs t)) y) (hk : cs[k]? = some u) : y.cell? ⟨w.heap.size, k, none⟩ = some u := by
  have h1 : (w.alloc (.cells cs t)).heap[w.heap.size]? = some (.cells cs t (0, 0)) := by
    show (w.heap.push _)[w.heap.size]? = _
    simp
  rw [hy.cell (by show w.heap.size < (w.heap.push _).size; simp)]
  unfold World.cell?
  simp only []
  rw [h1]
  simp [hk]

theorem boxd (w : World) (n : Int) (vv ev lv : Value) (t : TypeId) : Hid (∀ y, Below (w.alloc (.cells #[.int .i64 n, vv, ev, lv] t)).heap.size (w.alloc (.cells #[.int .i64 n, vv, ev, lv] t)) y → Bxd y w.heap.size n vv ev lv) :=
  fun y hy => ⟨boxed (k := 0) hy rfl, boxed (k := 1) hy rfl, boxed (k := 2) hy rfl, boxed (k := 3) hy rfl⟩

set_option maxRecDepth 100000 in
set_option maxHeartbeats 1000000 in
theorem stands_ok {w : World} {n : Int} {vv ev lv : Value} {m : Mo} (hm : Mp w vv ev lv m) (hl : m.l.length = m.es.length) (d v : Nat) (hd : d < 4294967296) (hv : v < 4294967296) (z : Bool) (hz : z = true ↔ Lv m.es (d / 2) ∧ m.fr d = v) :
    Calls Tryz.prog 52 #[.agg #[.int .i64 n, vv, ev, lv], .int .u32 (d : Int), .int .u32 (v : Int)] w fun e w' => e = .returned (.bool z) ∧ Below w.heap.size w w' := by
  replace hl := hid hl
  have hb := balloc w (.cells #[.int .i64 n, vv, ev, lv] 36)
  have hlv := hid (fun z hz => live_ok (hm.es.below hb) (d / 2) (by omega) z hz)
  by_cases h : Lv m.es (d / 2)
  · have hlt : d < m.k := by have := h.lt; have := hl.out; unfold Mo.k; omega
    obtain ⟨b, o, cap, rfl, g1, g2, c0, c1, g3, g4⟩ := (hm.l.below hb).dart hlt
    have hz' : z = decide (m.fr d = v) := by rw [Bool.eq_iff_iff, hz]; simp [h]
    subst hz'
    have hq := hid (hlv.out true (by simp [h]))
    obtain ⟨F, hF⟩ : ∃ F, m.fr d = F := ⟨_, rfl⟩
    rw [hF] at c0 g3 ⊢
    have hk : d / 2 < m.l.length := by have := h.lt; have := hl.out; omega
    have j1 : (0 : Int) ≤ (d : Int) / 2 := by omega
    have j2 : (d : Int) / 2 < (m.l.length : Int) := by omega
    have ht : decide (F = v) = ((F : Int) == (v : Int)) := by rw [Bool.eq_iff_iff]; simp; omega
    rw [ht]
    clear hlv hz hF c1 g4 ht h hlt
    go_enter Tryz.func52, Tryz.ntmps52
    go_wp2_with fail
    refine hq.out.mono ?_
    rintro e w1 ⟨rfl, rfl⟩
    go_wp2_with fail
    go_ret
    exact ⟨rfl, hb⟩
  · have hz' : z = false := by
      cases z with
      | false => rfl
      | true => exact absurd (hz.1 rfl).1 h
    subst hz'
    have hq := hid (hlv.out false (by simp [h]))
    clear hlv hz
    go_enter Tryz.func52, Tryz.ntmps52
    go_wp2_with fail
    refine hq.out.mono ?_
    rintro e w1 ⟨rfl, rfl⟩
    go_wp2_with fail
    go_ret
    exact ⟨rfl, hb⟩

end Go.Proofs.YtboafgimjadboaaGreatDoor

namespace Go.Proofs.YtboafgimjadboaaGreatDoor
open Go.RowKit
set_option linter.unusedVariables false

theorem p2_eq (a b c d : Int) (w : World) : (Op.equalIn 9999 59 (.agg #[.int .u32 a, .int .u32 b]) (.agg #[.int .u32 c, .int .u32 d])).run Tryz.prog w = .ok (a == c && b == d) w := by
  have u3 := Tryz.underlying56
  have a3 := Tryz.isAgg56
  have z3 := Tryz.sizeOf56
  rw [show (9999 : Nat) = 9998 + 1 from rfl, Op.equalIn]
  simp only [Sem.run_bind, run_underlying Tryz.underlying59, Result.andThen_ok]
  simp only [Std.Legacy.Range.forIn_eq_forIn_range', Std.Legacy.Range.size, Nat.sub_zero, Nat.add_sub_cancel, Nat.div_one, List.range'_succ, List.range'_zero, List.forIn_cons, List.forIn_nil]
  go_simp
  by_cases h1 : a = c <;> by_cases h2 : b = d <;> simp [h1, h2]

abbrev egv (x : Eg) : Value := .agg #[.int .u32 (x.f0 : Int), .int .u32 (x.f1 : Int), .int .u32 (x.n0 : Int), .int .u32 (x.n1 : Int), .int .i32 x.w]

theorem me_eq (a0 a1 b0 b1 u c0 c1 d0 d1 v : Int) (w : World) : (Op.equalIn 10000 72 (.agg #[.int .u32 a0, .int .u32 a1, .int .u32 b0, .int .u32 b1, .int .i32 u]) (.agg #[.int .u32 c0, .int .u32 c1, .int .u32 d0, .int .u32 d1, .int .i32 v])).run Tryz.prog w = .ok ((a0 == c0 && a1 == c1) && ((b0 == d0 && b1 == d1) && u == v)) w := by
  have q1 := fun y => p2_eq a0 a1 c0 c1 y
  have q2 := fun y => p2_eq b0 b1 d0 d1 y
  rw [show (10000 : Nat) = 9999 + 1 from rfl, Op.equalIn]
  go_simp
  cases h1 : (a0 == c0 && a1 == c1) <;> cases h2 : (b0 == d0 && b1 == d1) <;> simp_all
  by_cases h : u = v <;> simp [h]

/-- Whether two edges are one. -/
theorem eg_is (x y : Eg) : (((x.f0 : Int) == (y.f0 : Int) && (x.f1 : Int) == (y.f1 : Int)) && (((x.n0 : Int) == (y.n0 : Int) && (x.n1 : Int) == (y.n1 : Int)) && x.w == y.w)) = true ↔ x = y := by
  cases x; cases y
  simp only [Bool.and_eq_true, beq_iff_eq, Eg.mk.injEq]
  omega

theorem eg_eq (x y : Eg) (z : Bool) (hz : z = true ↔ x = y) (w : World) : (Op.equalIn 10000 72 (egv x) (egv y)).run Tryz.prog w = .ok z w := by
  rw [me_eq]
  congr 1
  rw [Bool.eq_iff_iff, eg_is, hz]

end Go.Proofs.YtboafgimjadboaaGreatDoor

namespace Go.Proofs.YtboafgimjadboaaGreatDoor
open Go.RowKit
set_option linter.unusedVariables false

theorem infoU32 : (Tryz.prog.info? 56).map (fun i => (i.zero, i.size, i.bytes)) = some (some (.int .u32 0), 1, 4) := by kernel_rfl

theorem pair32 (x y : Int) (w : World) : (Instr.index 59 (.agg #[.int .u32 x, .int .u32 y]) (.int .i64 0)).run Tryz.prog w = .ok (.int .u32 x) w ∧ (Instr.index 59 (.agg #[.int .u32 x, .int .u32 y]) (.int .i64 1)).run Tryz.prog w = .ok (.int .u32 y) w := by
  have hi := info_parts infoU32
  obtain ⟨i0, hif, hz0, hz1, hz2⟩ := hi
  constructor <;> simp [Instr.index, asIntOf, run_underlying Tryz.underlying59, part, Go.sizeOf, typeInfo, hif, hz1, isAgg, run_underlying Tryz.underlying56, go_sem]

theorem pair32_fr (x : Eg) (k : Nat) (hk : k < 2) (w : World) : (Instr.index 59 (.agg #[.int .u32 (x.f0 : Int), .int .u32 (x.f1 : Int)]) (.int .i64 (k : Int))).run Tryz.prog w = .ok (.int .u32 (x.fr k : Int)) w := by
  rcases (by omega : k = 0 ∨ k = 1) with rfl | rfl
  · exact (pair32 _ _ w).1
  · exact (pair32 _ _ w).2

/-- One side of an edge may be. -/
def SOk (m : Mo) (x : Eg) (s : Nat) : Prop := Lv m.vs (x.fr s) ∧ Lv m.es (x.nx s / 2) ∧ m.fr (x.nx s) = x.fr s

set_option maxRecDepth 100000 in
set_option maxHeartbeats 4000000 in
theorem told_ok {w : World} {n : Int} {vv ev lv : Value} {m : Mo} (hm : Mp w vv ev lv m) :
    Calls Tryz.prog 24 #[.agg #[.int .i64 n, vv, ev, lv]] w fun e w' => ∃ z : Bool, e = .returned (.bool z) ∧ (z = true ↔ Told m) ∧ Below w.heap.size w w' := by
  have hm0 := hid hm
  obtain ⟨ea, en, ec, rfl, hE, he0, he1, he2⟩ := hm.es
  obtain ⟨la, ln, lc, rfl, hL, hl1, hl2⟩ := hm.l
  have hl3 : lc ≤ 9223372036854775807 := by unfold maxLen at hl2; omega
  have hen := hid hE.len
  have hln := hid hL.len
  have hb0 := hid (balloc w (.cells #[.int .i64 n, vv, .slice ea en ec, .slice la ln lc] 36))
  clear hm
  by_cases hq : ln = en
  · have t1 : ((ln : Int) == (en : Int)) = true := by simp [hq]
    have t2 : ((ln : Int) != (en : Int)) = false := by simp [hq]
    have hq' := hid hq
    clear hq
    have hcs := boxd w n vv (.slice ea en ec) (.slice la ln lc) 36
    go_enter Tryz.func24, Tryz.ntmps24
    go_wp2_with fail
    obtain ⟨w1, hw1⟩ : ∃ w1, w.alloc (.cells #[.int .i64 n, vv, .slice ea en ec, .slice la ln lc] 36) = w1 := ⟨_, rfl⟩
    rw [hw1] at hcs hb0 ⊢
    clear hw1
    go_loopw [3, 4, 5, 6, 17] (fun _ _ _ _ s17 wr => ∃ e : Nat, e ≤ ln ∧ s17 = .int .i64 (e : Int) ∧ Hid ((∀ j x, j < e → m.l[j]? = some x → EOk m j x) ∧ Below w1.heap.size w1 wr)) (fun _ _ _ _ s17 _ => ln - (intOf s17).toNat)
    case atStart => exact ⟨0, by omega, by go_num, fun j x hj => by omega, Below.refl _ _⟩
    case round =>
      obtain ⟨e, he, rfl, hst⟩ := hrel
      have hbw := hid (hb0.out.trans (hst.out.2.mono hb0.out.size))
      rcases Nat.lt_or_ge e ln with hlt | hge
      · obtain ⟨x, hx⟩ : ∃ x, m.l[e]? = some x := ⟨_, List.getElem?_eq_getElem (by rw [hln.out]; exact hlt)⟩
        obtain ⟨p, hp⟩ : ∃ p, m.es[e]? = some p := ⟨_, List.getElem?_eq_getElem (by rw [hen.out, ← hq'.out]; exact hlt)⟩
        obtain ⟨c0, c1, c2, c3⟩ := hcs.out wr hst.out.2
        obtain ⟨lb, lo, rfl, l0, l1, l2, l3, l4⟩ := (hL.below hbw.out).cell e x hx
        have hnum := hid (hL.num x (List.mem_of_getElem? hx))
        have j1 : (0 : Int) ≤ (e : Int) := by omega
        have j2 : (e : Int) < (ln : Int) := by omega
        have j3 : (e : Int) < (en : Int) := by have := hq'.out; omega
        have hlv : Hid (Lv m.es e ↔ p.2 = 1) := by unfold Lv; rw [hp]; exact Iff.rfl
        replace hx := hid hx
        have hba := hid (balloc wr (.cells #[.int .u32 (x.f0 : Int), .int .u32 (x.f1 : Int), .int .u32 (x.n0 : Int), .int .u32 (x.n1 : Int), .int .i32 x.w] 72))
        have hce : Hid (∀ y, Below (wr.alloc (.cells #[.int .u32 (x.f0 : Int), .int .u32 (x.f1 : Int), .int .u32 (x.n0 : Int), .int .u32 (x.n1 : Int), .int .i32 x.w] 72)).heap.size (wr.alloc (.cells #[.int .u32 (x.f0 : Int), .int .u32 (x.f1 : Int), .int .u32 (x.n0 : Int), .int .u32 (x.n1 : Int), .int .i32 x.w] 72)) y → y.cell? ⟨wr.heap.size, 0, none⟩ = some (.int .u32 (x.f0 : Int)) ∧ y.cell? ⟨wr.heap.size, 1, none⟩ = some (.int .u32 (x.f1 : Int)) ∧ y.cell? ⟨wr.heap.size, 2, none⟩ = some (.int .u32 (x.n0 : Int)) ∧ y.cell? ⟨wr.heap.size, 3, none⟩ = some (.int .u32 (x.n1 : Int)) ∧ y.cell? ⟨wr.heap.size, 4, none⟩ = some (.int .i32 x.w)) :=
          fun y hy => ⟨boxed (k := 0) hy rfl, boxed (k := 1) hy rfl, boxed (k := 2) hy rfl, boxed (k := 3) hy rfl, boxed (k := 4) hy rfl⟩
        clear t1 t2
        go_upto_region 6 with fail
        obtain ⟨w2, hw2⟩ : ∃ w2, wr.alloc (.cells #[.int .u32 (x.f0 : Int), .int .u32 (x.f1 : Int), .int .u32 (x.n0 : Int), .int .u32 (x.n1 : Int), .int .i32 x.w] 72) = w2 := ⟨_, rfl⟩
        rw [hw2] at hba hce ⊢
        obtain ⟨xb, hxb⟩ : ∃ xb, wr.heap.size = xb := ⟨_, rfl⟩
        rw [hxb] at hce ⊢
        clear hxb hw2 l0 l1 l2 l3 l4 c0 c1 c2 c3
        have hb2 := hid (hst.out.2.trans (hba.out.mono hst.out.2.size))
        have hbw2 := hid (hbw.out.trans (hba.out.mono hbw.out.size))
        obtain ⟨eb, eo, rfl, _, e1⟩ := (hE.below hbw2.out).cell e p hp
        obtain ⟨c0, c1, c2, c3⟩ := hcs.out w2 hb2.out
        obtain ⟨l0, l1, l2, l3, l4⟩ := hce.out w2 (Below.refl _ _)
        clear hp
        by_cases hp1 : p.2 = 1
        · have t3 : (p.2 == 1) = true := by simp [hp1]
          have t4 : (p.2 != 1) = false := by simp [hp1]
          replace hp1 := hid hp1
          go_wp2_with fail
          go_loopw [5, 6, 34] (fun _ _ s34 wy => ∃ k : Nat, k ≤ 2 ∧ s34 = .int .i64 (k : Int) ∧ Hid ((∀ s, s < k → SOk m x s) ∧ Below w2.heap.size w2 wy)) (fun _ _ s34 _ => 2 - (intOf s34).toNat)
          case atStart => exact ⟨0, by omega, by go_num, fun s hs => by omega, Below.refl _ _⟩
          case round =>
            obtain ⟨k, hk, rfl, hsy⟩ := hrel
            clear c0 c1 c2 c3 l0 l1 l2 l3 l4 e1
            have hby := hid (hbw2.out.trans (hsy.out.2.mono hbw2.out.size))
            rcases Nat.lt_or_ge k 2 with hk2 | hk2
            · have hix := pair32_fr x k hk2
              obtain ⟨F, hF⟩ : ∃ F, x.fr k = F := ⟨_, rfl⟩
              obtain ⟨G, hG⟩ : ∃ G, x.nx k = G := ⟨_, rfl⟩
              have hFG : F < 4294967296 ∧ G < 4294967296 := by
                obtain ⟨a1, a2, a3, a4, _⟩ := hnum.out
                subst hF hG
                unfold Eg.fr Eg.nx
                rcases (by omega : k = 0 ∨ k = 1) with rfl | rfl
                · exact ⟨a1, a3⟩
                · exact ⟨a2, a4⟩
              have hcG : Hid (∀ y, Below w2.heap.size w2 y → y.cell? ⟨xb, 2 + k, none⟩ = some (.int .u32 (G : Int))) := fun y hy => by
                obtain ⟨_, _, q2, q3, _⟩ := hce.out y hy
                subst hG
                unfold Eg.nx
                rcases (by omega : k = 0 ∨ k = 1) with rfl | rfl
                · exact q2
                · exact q3
              rw [hF] at hix
              have hlive := hid (fun y hy z hz => live_ok ((hm0.out.vs.below hby.out).below (w' := y) hy) F hFG.1 z hz)
              have hstand := hid (fun y hy z hz => stands_ok (n := n) ((hm0.out.below hby.out).below (w' := y) hy) (by rw [hln.out, hen.out]; exact hq'.out) G F hFG.2 hFG.1 z hz)
              have hSO : Hid (SOk m x k ↔ Lv m.vs F ∧ Lv m.es (G / 2) ∧ m.fr G = F) := by unfold SOk; rw [hF, hG]; exact Iff.rfl
              clear hF hG
              have i1 : (0 : Int) ≤ (k : Int) := by omega
              have i2 : (k : Int) < 2 := by omega
              by_cases hv : Lv m.vs F
              · have hS : Hid (∀ y, Below wr.heap.size wr y → y.cell? ⟨w.heap.size, 0, none⟩ = some (.int .i64 n) ∧ y.cell? ⟨w.heap.size, 1, none⟩ = some vv ∧ y.cell? ⟨w.heap.size, 2, none⟩ = some (.slice (some ⟨eb, eo, none⟩) en ec) ∧ y.cell? ⟨w.heap.size, 3, none⟩ = some (.slice (some ⟨lb, lo, none⟩) ln lc) ∧ y.cell? ⟨xb, 2 + k, none⟩ = some (.int .u32 (G : Int))) := fun y hy => by
                  have q := hsy.out.2.trans (hy.mono hsy.out.2.size)
                  obtain ⟨a0, a1, a2, a3⟩ := hcs.out y (hb2.out.trans (q.mono hb2.out.size))
                  exact ⟨a0, a1, a2, a3, hcG.out y q⟩
                obtain ⟨a0, a1, a2, a3, a4⟩ := hS.out wr (Below.refl _ _)
                by_cases hs2 : Lv m.es (G / 2) ∧ m.fr G = F
                · have hl1 := hid (fun y hy => hlive.out y hy true (by simp [hv]))
                  have hs1 := hid (fun y hy => hstand.out y hy true (by simp [hs2]))
                  clear hlive hstand
                  go_upto_region 12 with fail
                  go_region_held3 (fun w' => w'.cell? ⟨w.heap.size, 0, none⟩ = some (.int .i64 n) ∧ w'.cell? ⟨w.heap.size, 1, none⟩ = some vv ∧ w'.cell? ⟨w.heap.size, 2, none⟩ = some (.slice (some ⟨eb, eo, none⟩) en ec) ∧ w'.cell? ⟨w.heap.size, 3, none⟩ = some (.slice (some ⟨lb, lo, none⟩) ln lc) ∧ w'.cell? ⟨xb, 2 + k, none⟩ = some (.int .u32 (G : Int))) (first | with_reducible exact hS.out _ (Below.refl _ _).drew | with_reducible exact hS.out _ bS | go_keep) ((first | (go_at_call 51; refine (hl1.out _ (Below.refl _ _).drew).mono ?_; rintro e1 y1 ⟨rfl, rfl⟩) | (go_at_call 52; refine (hs1.out _ (Below.refl _ _).drew).mono ?_; rintro e1 y1 ⟨rfl, bs⟩; have bS : Below wr.heap.size wr y1 := (Below.refl wr.heap.size wr).drew.trans bs)))
                  all_goals
                    go_wp2_with fail
                    go_roundw
                    case rel =>
                      refine ⟨k + 1, by omega, by go_num, fun s hs => ?_, hsy.out.2.trans (bS.mono hsy.out.2.size)⟩
                      rcases Nat.lt_or_ge s k with q | q
                      · exact hsy.out.1 s q
                      · obtain rfl : s = k := by omega
                        exact hSO.out.2 ⟨hv, hs2⟩
                    case measure => simp [intOf]; omega
                · have hl1 := hid (fun y hy => hlive.out y hy true (by simp [hv]))
                  have hs1 := hid (fun y hy => hstand.out y hy false (by simp [hs2]))
                  clear hlive hstand
                  go_upto_region 12 with fail
                  go_region_held3 (fun w' => w'.cell? ⟨w.heap.size, 0, none⟩ = some (.int .i64 n) ∧ w'.cell? ⟨w.heap.size, 1, none⟩ = some vv ∧ w'.cell? ⟨w.heap.size, 2, none⟩ = some (.slice (some ⟨eb, eo, none⟩) en ec) ∧ w'.cell? ⟨w.heap.size, 3, none⟩ = some (.slice (some ⟨lb, lo, none⟩) ln lc) ∧ w'.cell? ⟨xb, 2 + k, none⟩ = some (.int .u32 (G : Int))) (first | with_reducible exact hS.out _ (Below.refl _ _).drew | with_reducible exact hS.out _ bS | go_keep) ((first | (go_at_call 51; refine (hl1.out _ (Below.refl _ _).drew).mono ?_; rintro e1 y1 ⟨rfl, rfl⟩) | (go_at_call 52; refine (hs1.out _ (Below.refl _ _).drew).mono ?_; rintro e1 y1 ⟨rfl, bs⟩; have bS : Below wr.heap.size wr y1 := (Below.refl wr.heap.size wr).drew.trans bs)))
                  all_goals
                    go_wp2_with fail
                    go_ret
                    exact ⟨false, rfl, ⟨fun q => (by cases q), fun q => absurd (hSO.out.1 ((q.2 e x hx.out).2 (hlv.out.2 hp1.out) k hk2)).2 hs2⟩, hby.out.trans (bS.mono hby.out.size)⟩
              · have hl1 := hid (fun y hy => hlive.out y hy false (by simp [hv]))
                have hvv : wr.cell? ⟨w.heap.size, 1, none⟩ = some vv := (hcs.out wr (hb2.out.trans (hsy.out.2.mono hb2.out.size))).2.1
                clear hlive hstand
                go_upto_region 12 with fail
                go_quiet ((go_at_call 51; exact Calls.quiet_of_same ((hl1.out _ (belowN (Below.refl _ _) _)).mono (fun _ _ h => ⟨h.1, h.2.symm⟩))))
                go_wp2_with fail
                go_ret
                exact ⟨false, rfl, ⟨fun q => (by cases q), fun q => absurd (hSO.out.1 ((q.2 e x hx.out).2 (hlv.out.2 hp1.out) k hk2)).1 hv⟩, belowN hby.out _⟩
            · obtain rfl : k = 2 := by omega
              go_wp2_with fail
              go_roundw
              case rel =>
                refine ⟨e + 1, by omega, by go_num, fun j y hj hy => ?_, hb2.out.trans (hsy.out.2.mono hb2.out.size)⟩
                rcases Nat.lt_or_ge j e with q | q
                · exact hst.out.1 j y q hy
                · obtain rfl : j = e := by omega
                  obtain rfl : x = y := Option.some.inj (hx.out.symm.trans hy)
                  exact ⟨fun q => absurd (hlv.out.2 hp1.out) q, fun _ s hs => hsy.out.1 s hs⟩
              case measure => simp [intOf]; omega
        · have t3 : (p.2 == 1) = false := by simp [hp1]
          have t4 : (p.2 != 1) = true := by simp [hp1]
          have hno : Hid (¬ Lv m.es e) := fun q => hp1 (hlv.out.1 q)
          clear hp1
          have heq := fun z hz y => eg_eq x ez z hz y
          by_cases hxz : x = ez
          · have he1 : ∀ y, (Op.equalIn 10000 72 (.agg #[.int .u32 (x.f0 : Int), .int .u32 (x.f1 : Int), .int .u32 (x.n0 : Int), .int .u32 (x.n1 : Int), .int .i32 x.w]) (.agg #[.int .u32 0, .int .u32 0, .int .u32 0, .int .u32 0, .int .i32 0])).run Tryz.prog y = .ok true y := fun y => heq true (by simp [hxz]) y
            have hxz' := hid hxz
            clear hxz heq
            go_wp2_with fail
            go_roundw
            case rel =>
              refine ⟨e + 1, by omega, by go_num, fun j y hj hy => ?_, hb2.out⟩
              rcases Nat.lt_or_ge j e with q | q
              · exact hst.out.1 j y q hy
              · obtain rfl : j = e := by omega
                obtain rfl : x = y := Option.some.inj (hx.out.symm.trans hy)
                exact ⟨fun _ => hxz'.out, fun q => absurd q hno.out⟩
            case measure => simp [intOf]; omega
          · have he1 : ∀ y, (Op.equalIn 10000 72 (.agg #[.int .u32 (x.f0 : Int), .int .u32 (x.f1 : Int), .int .u32 (x.n0 : Int), .int .u32 (x.n1 : Int), .int .i32 x.w]) (.agg #[.int .u32 0, .int .u32 0, .int .u32 0, .int .u32 0, .int .i32 0])).run Tryz.prog y = .ok false y := fun y => heq false (by simp [hxz]) y
            have hxz' := hid hxz
            clear hxz heq
            go_wp2_with fail
            go_ret
            exact ⟨false, rfl, ⟨fun q => (by cases q), fun q => absurd ((q.2 e x hx.out).1 hno.out) hxz'.out⟩, hbw2.out⟩
      · obtain rfl : e = ln := by omega
        go_wp2_with fail
        go_ret
        exact ⟨true, rfl, ⟨fun _ => ⟨by rw [hln.out, hen.out]; exact hq'.out, fun j x hx => hst.out.1 j x (by have := (List.getElem?_eq_some_iff.1 hx).1; rw [hln.out] at this; exact this) hx⟩, fun _ => rfl⟩, hbw.out⟩
  · have t1 : ((ln : Int) == (en : Int)) = false := by simp; omega
    have t2 : ((ln : Int) != (en : Int)) = true := by simp; omega
    have hq' := hid hq
    clear hq
    go_enter Tryz.func24, Tryz.ntmps24
    go_wp2_with fail
    go_ret
    exact ⟨false, rfl, ⟨fun q => (by cases q), fun q => absurd q.1 (by rw [hen.out, hln.out]; exact hq'.out)⟩, hb0.out⟩

end Go.Proofs.YtboafgimjadboaaGreatDoor
