/- kin's small functions: sides, edge, twin, around, origin, head, behind. A walk in memory; newWalk, reached. spread, walked. -/
import Derived.Test.YtghpjljnbdjmaaaGreatDoorBkpure
import Derived.Test.YtghpjljnbdjmaaaGreatDoorLaws11
import Derived.Maps.AppendAt
import Derived.WalkMore
namespace Go.Proofs.YtghpjljnbdjmaaaGreatDoor
open Go.RowKit
set_option linter.unusedVariables false

set_option maxRecDepth 100000 in
theorem ksides_ok (e : Nat) (w : World) (he : e ≤ 2097152) : Calls Tryz.prog 38 #[.int .i64 (e : Int)] w fun x w' => x = .returned (.tuple #[.int .i64 ((2 * e : Nat) : Int), .int .i64 ((2 * e + 1 : Nat) : Int)]) ∧ w = w' := by
  have e1 : ((2 * e : Nat) : Int) = 2 * (e : Int) := by omega
  have e2 : ((2 * e + 1 : Nat) : Int) = 2 * (e : Int) + 1 := by omega
  rw [e1, e2]
  clear e1 e2
  go_enter Tryz.func38, Tryz.ntmps38
  go_wp2_with fail
  go_ret2
  exact ⟨rfl, rfl⟩

set_option maxRecDepth 100000 in
theorem kedge_ok (d : Nat) (w : World) (hd : d ≤ 2097152) : Calls Tryz.prog 68 #[.int .i64 (d : Int)] w fun x w' => x = .returned (.int .i64 ((d / 2 : Nat) : Int)) ∧ w = w' := by
  have e1 : (d : Int).tdiv 2 = ((d / 2 : Nat) : Int) := by rw [Int.tdiv_eq_ediv_of_nonneg (by omega)]; omega
  go_enter Tryz.func68, Tryz.ntmps68
  go_wp2_with fail
  go_ret
  refine ⟨?_, rfl⟩
  rfl

set_option maxRecDepth 100000 in
theorem ktwin_ok (d : Nat) (w : World) (hd : d ≤ 2097152) : Calls Tryz.prog 77 #[.int .i64 (d : Int)] w fun x w' => x = .returned (.int .i64 (tw d : Int)) ∧ w = w' := by
  have e1 : bits BinOp.xor IntKind.i64 (d : Int) 1 = (tw d : Int) := by rw [bits_twin _ (by omega) (by omega), twI_nat]
  go_enter Tryz.func77, Tryz.ntmps77
  go_wp2_with fail
  go_ret
  exact ⟨rfl, rfl⟩

section
variable {w : World} {lo tb V E : Nat} {R : Nat → List Nat}

theorem low21 (h : TA w lo tb V E R) {d : Nat} (hd : In V R d) : d ≤ 2097152 := by
  have := hd.low h.tn
  have := h.hE
  omega

set_option maxRecDepth 100000 in
theorem korigin_ok (h : TA w lo tb V E R) (d : Nat) (hd : In V R d) : Calls Tryz.prog 51 #[.pointer (some ⟨tb, 0, none⟩), .int .i64 (d : Int)] w fun x w' => x = .returned (.int .i64 (og V R d : Int)) ∧ Below w.heap.size w w' := by
  have hn := hid (origin_in h d hd)
  clear h hd
  go_enter Tryz.func51, Tryz.ntmps51
  go_wp2_with fail
  refine hn.out.mono ?_
  rintro x w1 ⟨rfl, b1⟩
  replace b1 := hid b1
  go_wp2_with fail
  go_ret
  exact ⟨rfl, b1.out⟩

set_option maxRecDepth 100000 in
theorem khead_ok (h : TA w lo tb V E R) (hw : Tw V E R) (d : Nat) (hd : In V R d) : Calls Tryz.prog 44 #[.pointer (some ⟨tb, 0, none⟩), .int .i64 (d : Int)] w fun x w' => x = .returned (.int .i64 (og V R (tw d) : Int)) ∧ Below w.heap.size w w' := by
  have hn := hid (korigin_ok h (tw d) (hd.tw h.tn hw))
  have ht := hid (ktwin_ok d w (low21 h hd))
  clear h hw hd
  go_enter Tryz.func44, Tryz.ntmps44
  go_wp2_with fail
  refine ht.out.mono ?_
  rintro x w1 ⟨rfl, rfl⟩
  go_wp2_with fail
  refine hn.out.mono ?_
  rintro x w1 ⟨rfl, b1⟩
  replace b1 := hid b1
  go_wp2_with fail
  go_ret
  exact ⟨rfl, b1.out⟩

set_option maxRecDepth 100000 in
theorem kbehind_ok (h : TA w lo tb V E R) (d : Nat) (hd : In V R d) : Calls Tryz.prog 100 #[.pointer (some ⟨tb, 0, none⟩), .int .i64 (d : Int)] w fun x w' => x = .returned (.int .i64 (vx V R d : Int)) ∧ Below w.heap.size w w' := by
  have hn := hid (nextv_in h d hd)
  clear h hd
  go_enter Tryz.func100, Tryz.ntmps100
  go_wp2_with fail
  refine hn.out.mono ?_
  rintro x w1 ⟨rfl, b1⟩
  replace b1 := hid b1
  go_wp2_with fail
  go_ret
  exact ⟨rfl, b1.out⟩

set_option maxRecDepth 100000 in
theorem karound_ok (h : TA w lo tb V E R) (v : Nat) (hv : v < V) : Calls Tryz.prog 67 #[.pointer (some ⟨tb, 0, none⟩), .int .i64 (v : Int)] w fun x w' => ∃ rv, x = .returned rv ∧ Rw w.heap.size w' rv (lf (R v)) ∧ Below w.heap.size w w' := by
  have hn := hid (round_ok h v hv)
  have hl : Hid ((lf (R v)).length = (R v).length) := by unfold lf; rw [rot_len]; exact hid rfl
  clear h hv
  go_enter Tryz.func67, Tryz.ntmps67
  go_wp2_with fail
  refine hn.out.mono ?_
  rintro x w1 ⟨rv, rfl, h1, b1⟩
  have fin : Hid (Rw w.heap.size w1 rv (lf (R v))) := by unfold Rw; rw [hl.out]; exact hid h1
  replace b1 := hid b1
  clear h1 hn
  go_wp2_with fail
  go_ret
  exact ⟨_, rfl, fin.out, b1.out⟩

end

end Go.Proofs.YtghpjljnbdjmaaaGreatDoor

namespace Go.Proofs.YtghpjljnbdjmaaaGreatDoor
open Go.RowKit
set_option linter.unusedVariables false

open Pq (fl fl_length fl_succ fl_get fl_congr)

/-- More than any number of edges. -/
def far : Nat := 9223372036854775807

theorem ncs_get {n : Nat} {f : Nat → Nat} {j : Nat} (h : j < n) : (ncs (fl n f))[j]? = some (.int .i64 (f j : Int)) := by
  unfold ncs
  rw [List.getElem?_map, fl_get h]
  rfl
theorem ncs_set (n : Nat) (f : Nat → Nat) (x y : Nat) : (ncs (fl n f)).set x (.int .i64 (y : Int)) = ncs (fl n (updN f x y)) := by
  apply List.ext_getElem?
  intro j
  by_cases hj : j < n
  · rw [List.getElem?_set]
    by_cases e : x = j
    · subst e; rw [if_pos rfl, ncs_get hj, updN_same]; simp [hj]
    · rw [if_neg e, ncs_get hj, ncs_get hj, updN_ne _ _ (fun h => e h.symm)]
  · rw [List.getElem?_eq_none (by simp; omega), List.getElem?_eq_none (by simp; omega)]
theorem ncs_made (n : Nat) : (madeCells (Value.cells (.int .i64 0)) (n * 1)).toList = ncs (fl n (fun _ => 0)) := by
  rw [Nat.mul_one]
  show (madeCells #[Value.int .i64 0] n).toList = _
  rw [toList_madeCells_one]
  apply List.ext_getElem?
  intro j
  by_cases hj : j < n
  · rw [ncs_get hj]; simp [hj]
  · rw [List.getElem?_eq_none (by simp; omega), List.getElem?_eq_none (by simp; omega)]

/-- A walk: its struct, and how far each vertex is away. -/
structure Wm (base : Nat) (w0 w : World) (wb : Nat) (pv : Option Addr) (sb V : Nat) (e : Int) (st : Nat → Nat) : Prop where
  blk : w.heap[wb]? = some (.cells #[.pointer pv, .int .i64 e, .slice (some ⟨sb, 0, none⟩) V V] 77 (0, 0))
  row : w.ownsRow base 3 1 (.slice (some ⟨sb, 0, none⟩) V V) V (ncs (fl V st))
  bel : Below base w0 w
  low : base ≤ w0.heap.size

section
variable {base : Nat} {w0 w w' : World} {wb sb V : Nat} {pv : Option Addr} {e : Int} {st : Nat → Nat}

theorem Wm.more (h : Wm base w0 w wb pv sb V e st) (hb : Below w.heap.size w w') : Wm base w0 w' wb pv sb V e st :=
  ⟨by rw [hb.block wb (Array.getElem?_eq_some_iff.1 h.blk).1]; exact h.blk, ownsRow_below h.row hb, h.bel.trans (hb.mono (Nat.le_trans h.low h.bel.size)), h.low⟩

theorem Wm.c0 (h : Wm base w0 w wb pv sb V e st) : w.cell? ⟨wb, 0, none⟩ = some (.pointer pv) := by simp [World.cell?, h.blk]
theorem Wm.c1 (h : Wm base w0 w wb pv sb V e st) : w.cell? ⟨wb, 1, none⟩ = some (.int .i64 e) := by simp [World.cell?, h.blk]
theorem Wm.c2 (h : Wm base w0 w wb pv sb V e st) : w.cell? ⟨wb, 2, none⟩ = some (.slice (some ⟨sb, 0, none⟩) V V) := by simp [World.cell?, h.blk]
theorem Wm.at_ (h : Wm base w0 w wb pv sb V e st) {x : Nat} (hx : x < V) : w.cell? ⟨sb, x, none⟩ = some (.int .i64 (st x : Int)) := by
  rw [h.row.cellAt x (by omega)]; exact ncs_get hx
theorem Wm.fz (h : Wm base w0 w wb pv sb V e st) (x : Nat) : w.frozen? ⟨sb, x, none⟩ = false := h.row.frozenAt x
theorem Wm.lt (h : Wm base w0 w wb pv sb V e st) : wb < w.heap.size ∧ sb < w.heap.size := ⟨(Array.getElem?_eq_some_iff.1 h.blk).1, (h.row.lt sb rfl).2⟩
theorem Wm.ge (h : Wm base w0 w wb pv sb V e st) : base ≤ sb := (h.row.lt sb rfl).1
theorem Wm.ne (h : Wm base w0 w wb pv sb V e st) : sb ≠ wb := fun q => by
  rcases h.row.2 with ⟨c, _⟩ | ⟨g, cap, cur, c, _, hh, _⟩
  · cases c
  · cases c
    have := h.blk
    rw [← q, hh] at this
    injection this with this
    injection this with _ this _
    revert this
    decide

/-- One vertex set. -/
theorem Wm.put (h : Wm base w0 w wb pv sb V e st) (x n : Nat) : Wm base w0 (w.setCell ⟨sb, x, none⟩ (.int .i64 (n : Int))) wb pv sb V e (updN st x n) ∧ w.grownBy (w.setCell ⟨sb, x, none⟩ (.int .i64 (n : Int))) (some sb) := by
  obtain ⟨s1, s2⟩ := h.row.stored x (.int .i64 (n : Int))
  rw [ncs_set] at s1
  refine ⟨⟨?_, s1, below_row h.bel h.low h.row (Nat.le_refl _) s2, h.low⟩, s2⟩
  rw [s2.block wb h.lt.1 (by simp; exact fun q => h.ne q.symm)]
  exact h.blk

/-- A row of one's own, made since, grows. -/
theorem Wm.grow (h : Wm base w0 w wb pv sb V e st) {base' n : Nat} {v : Value} {xs : List Value} (ho : w.ownsRow base' 3 1 v n xs) (hb : base ≤ base') (h1 : wb < base') (h2 : sb < base') (hg : w.grownBy w' v.ownBlock) : Wm base w0 w' wb pv sb V e st := by
  have ap : ∀ k, k < base' → v.ownBlock ≠ some k := fun k hk q => by have := (ho.lt k q).1; omega
  refine ⟨?_, h.row.kept hg (.inr ?_), below_row h.bel h.low ho hb hg, h.low⟩
  · rw [hg.block wb h.lt.1 (Ne.symm (ap wb h1))]; exact h.blk
  · intro q
    exact ap sb h2 (q.symm)

set_option maxRecDepth 100000 in
theorem reached_ok (h : Wm base w0 w wb pv sb V e st) (x : Nat) (b : Bool) (hx : x < V) (hb : b = true ↔ st x ≠ far) : Calls Tryz.prog 34 #[.pointer (some ⟨wb, 0, none⟩), .int .i64 (x : Int)] w fun r w' => r = .returned (.bool b) ∧ w = w' := by
  have c2 := h.c2
  have ca := h.at_ hx
  have t1 : ((st x : Int) != 9223372036854775807) = b := by
    cases b with
    | true => have := hb.1 rfl; unfold far at this; simp; omega
    | false =>
      have : st x = far := Classical.not_not.1 (fun q => by have := hb.2 q; simp at this)
      rw [this]; unfold far; simp
  have i1 : (0 : Int) ≤ (x : Int) := by omega
  have i2 : (x : Int) < (V : Int) := by omega
  clear h hb
  go_enter Tryz.func34, Tryz.ntmps34
  go_wp2_with fail
  go_ret
  exact ⟨rfl, rfl⟩
end

set_option maxRecDepth 100000 in
set_option maxHeartbeats 2000000 in
theorem newwalk_ok (w : World) (pv : Option Addr) (e : Int) (V E : Nat) (hV : V ≤ 1048576) (hs : Calls Tryz.prog 36 #[.pointer pv] w fun x w' => x = .returned (.tuple #[.int .i64 (V : Int), .int .i64 (E : Int)]) ∧ ∃ m, w' = w.drewN m) :
    Calls Tryz.prog 33 #[.pointer pv, .int .i64 e] w fun r w' => ∃ wb sb, r = .returned (.pointer (some ⟨wb, 0, none⟩)) ∧ w.heap.size ≤ wb ∧ Wm w.heap.size w w' wb pv sb V e (fun _ => far) := by
  obtain ⟨i0, hif, hz0, hz1, hz2⟩ := info_parts infoInt
  replace hs := hid hs
  go_enter Tryz.func33, Tryz.ntmps33
  go_wp2_with fail
  refine hs.out.mono ?_
  rintro x w1 ⟨rfl, m1, rfl⟩
  have b1 := hid (belowN (Below.refl w.heap.size w) m1)
  obtain ⟨w1, hw1⟩ : ∃ w1, w.drewN m1 = w1 := ⟨_, rfl⟩
  rw [hw1] at b1 ⊢
  have hsz := b1.out.size
  clear hs hw1
  go_wp2_with (at_make; refine wpList_make_full _ rfl (.tmp 14) (.tmp 14) 30 rfl w.heap.size 3 i0 (.int .i64 0) 1 Tryz.underlying30 hif hz0 hz1 .i64 .i64 _ _ V rfl rfl rfl rfl (by rw [hz2]; omega) (by unfold maxLen; omega) hsz ?_; intro w2 hown hgrow)
  have hst : Hid (w2.ownsRow w.heap.size 3 1 (.slice (some ⟨w1.heap.size, 0, none⟩) V V) V (ncs (fl V (fun i => if i < 0 then far else 0))) ∧ Below w.heap.size w w2) := by
    rw [ncs_made] at hown
    rw [fl_congr (g := fun _ => 0) (fun i _ => if_neg (Nat.not_lt_zero i))]
    exact ⟨hown, b1.out.grown hgrow hsz (by simp)⟩
  clear hown hgrow
  go_wp2_with fail
  go_loopw [8, 18] (fun _ u wr => ∃ j : Nat, j ≤ V ∧ u = .int .i64 (j : Int) ∧ Hid (wr.ownsRow w.heap.size 3 1 (.slice (some ⟨w1.heap.size, 0, none⟩) V V) V (ncs (fl V (fun i => if i < j then far else 0))) ∧ Below w.heap.size w wr))
    (fun _ u _ => V - (intOf u).toNat)
  case atStart => exact ⟨0, by omega, by go_num, hst⟩
  case round =>
    obtain ⟨j, hj, rfl, hs⟩ := hrel
    clear hst
    rcases Nat.lt_or_ge j V with hlt | hge
    · have hf : wr.frozen? ⟨w1.heap.size, j, none⟩ = false := hs.out.1.frozenAt j
      have hcj : wr.cell? ⟨w1.heap.size, j, none⟩ = some (.int .i64 ((if j < j then far else 0 : Nat) : Int)) := by rw [hs.out.1.cellAt j (by omega)]; exact ncs_get hlt
      have hnew : Hid ((wr.setCell ⟨w1.heap.size, j, none⟩ (.int .i64 9223372036854775807)).ownsRow w.heap.size 3 1 (.slice (some ⟨w1.heap.size, 0, none⟩) V V) V (ncs (fl V (fun i => if i < j + 1 then far else 0))) ∧ Below w.heap.size w (wr.setCell ⟨w1.heap.size, j, none⟩ (.int .i64 9223372036854775807))) := by
        obtain ⟨s1, s2⟩ := hs.out.1.stored j (.int .i64 ((far : Nat) : Int))
        rw [ncs_set, fl_congr (g := fun i => if i < j + 1 then far else 0) (fun i _ => by
          unfold updN
          by_cases e1 : i = j
          · rw [if_pos e1, if_pos (by omega)]
          · rw [if_neg e1]
            show (if i < j then far else 0) = _
            by_cases e2 : i < j
            · rw [if_pos e2, if_pos (by omega)]
            · rw [if_neg e2, if_neg (by omega)])] at s1
        exact ⟨s1, below_row hs.out.2 (Nat.le_refl _) hs.out.1 (Nat.le_refl _) s2⟩
      have j1 : (0 : Int) ≤ (j : Int) := by omega
      have j2 : (j : Int) < (V : Int) := by omega
      clear hs
      go_wp2_with fail
      go_roundw
      case rel => exact ⟨j + 1, by omega, by go_num, hnew⟩
      case measure => simp [intOf]; omega
    · obtain rfl : j = V := by omega
      have hb := hid hs.out.2
      have hr : Hid (wr.ownsRow w.heap.size 3 1 (.slice (some ⟨w1.heap.size, 0, none⟩) j j) j (ncs (fl j (fun _ => far)))) := by
        have := hs.out.1
        rw [fl_congr (g := fun _ => far) (fun i hi => if_pos hi)] at this
        exact hid this
      have fin : Hid (Wm w.heap.size w (wr.alloc (.cells #[.pointer pv, .int .i64 e, .slice (some ⟨w1.heap.size, 0, none⟩) j j] 77)) wr.heap.size pv w1.heap.size j e (fun _ => far)) :=
        ⟨heap_alloc_new _ _, hr.out.alloc _, hb.out.alloc hb.out.size _, Nat.le_refl _⟩
      have hsr := hid hb.out.size
      clear hs hb hr
      go_wp2_with fail
      go_ret
      exact ⟨_, _, rfl, hsr.out, fin.out⟩

end Go.Proofs.YtghpjljnbdjmaaaGreatDoor

namespace Go.Proofs.YtghpjljnbdjmaaaGreatDoor
open Go.RowKit
set_option linter.unusedVariables false

open Pq (fl fl_length fl_succ fl_get fl_congr)

/-- How far, where some were met anew. -/
def mix (st : Nat → Nat) (l : List Nat) (g : Nat → Nat) : Nat → Nat := fun x => if x ∈ l then g x else st x

theorem mix_start (st g : Nat → Nat) (o : Nat) : updN st o 0 = mix st [o] (updN g o 0) := by
  funext x
  unfold updN mix
  by_cases e : x = o
  · simp [e]
  · simp [e]
theorem mix_push (st g : Nat → Nat) (l : List Nat) (y n : Nat) (h : y ∉ l) : updN (mix st l g) y n = mix st (l ++ [y]) (updN g y n) := by
  funext x
  unfold updN mix
  by_cases e : x = y
  · simp [e]
  · simp [e]
theorem mix_in (st g : Nat → Nat) {l : List Nat} {x : Nat} (h : x ∈ l) : mix st l g x = g x := by simp [mix, h]
theorem mix_out (st g : Nat → Nat) {l : List Nat} {x : Nat} (h : x ∉ l) : mix st l g x = st x := by simp [mix, h]

theorem grown_of_below {w w' : World} (h : Below w.heap.size w w') (row : Option Nat) : w.grownBy w' row := ⟨h.os, h.tape, h.output, h.size, fun k hk _ => h.block k hk⟩
theorem grown_then {a b c : World} {row row' : Option Nat} (h : a.grownBy b row) (k : b.grownBy c row') (hr : ∀ j, row' = some j → a.heap.size ≤ j ∨ row = some j) : a.grownBy c row :=
  ⟨k.os.trans h.os, k.tape.trans h.tape, k.output.trans h.output, Nat.le_trans h.size k.size, fun i hi hn => (k.block i (Nat.lt_of_lt_of_le hi h.size) (fun q => by
    rcases hr i q.symm with q1 | q1
    · omega
    · exact hn q1.symm)).trans (h.block i hi hn)⟩

theorem Rw.keptA {w w' : World} {b : Nat} {u : Value} {l : List Nat} {row : Option Nat} (hu : Rw b w u l) (hg : w.grownBy w' row) (ha : ∀ k, u.ownBlock = some k → row ≠ some k) : Rw b w' u l :=
  World.ownsRow.kept hu hg (by
    cases h : u.ownBlock with
    | none => exact .inl rfl
    | some k => exact .inr (fun q => ha k h q.symm))

/-- Where spread stands. -/
structure Sq (w0 w wr : World) (wb tb sb V : Nat) (R : Nat → List Nat) (e : Int) (st : Nat → Nat) (o : Nat) (lv : Value) (l : List Nat) (g : Nat → Nat) (k : Nat) (ds : List Nat) : Prop where
  wm : Wm w0.heap.size w0 wr wb (some ⟨tb, 0, none⟩) sb V e (mix st l g)
  row : Rw w.heap.size wr lv l
  bf : Bf V R e o l g k ds
  gb : w.grownBy wr (some sb)

theorem Sq.more {w0 w wr wy : World} {wb tb sb V : Nat} {R : Nat → List Nat} {e : Int} {st : Nat → Nat} {o : Nat} {lv : Value} {l : List Nat} {g : Nat → Nat} {k : Nat} {ds : List Nat} (h : Sq w0 w wr wb tb sb V R e st o lv l g k ds) (hb : Below wr.heap.size wr wy) : Sq w0 w wy wb tb sb V R e st o lv l g k ds :=
  ⟨h.wm.more hb, h.row.more hb, h.bf, grown_then h.gb (grown_of_below hb none) (fun j q => by cases q)⟩

set_option maxRecDepth 100000 in
set_option maxHeartbeats 8000000 in
theorem spread_ok {w0 w : World} {lo tb V E wb sb : Nat} {R : Nat → List Nat} {e : Int} {st : Nat → Nat} (h : TA w0 lo tb V E R) (hw : Tw V E R) (hm : Wm w0.heap.size w0 w wb (some ⟨tb, 0, none⟩) sb V e st) (o : Nat) (a : Int) (ho : o < V) (O : Nat → Prop) (hO : ∀ x, x < V → (st x ≠ far ↔ O x)) (hcl : ∀ d, Gn V R e d → O (og V R d) → O (og V R (tw d))) (hno : ¬ O o) :
    Calls Tryz.prog 35 #[.pointer (some ⟨wb, 0, none⟩), .int .i64 (o : Int), .int .i64 a] w fun r w' => ∃ rv l g, r = .returned rv ∧ Rw w.heap.size w' rv l ∧ Sp V R e o a l g ∧ Wm w0.heap.size w0 w' wb (some ⟨tb, 0, none⟩) sb V e (mix st l g) ∧ w.grownBy w' (some sb) := by
  obtain ⟨i0, hif, hz0, hz1, hz2⟩ := info_parts infoInt
  have ht := h.tn
  have hV := h.hV
  have hE := h.hE
  -- what is asked of the program
  have har := hid (fun (v : Nat) (hv : v < V) y (hy : Below w0.heap.size w0 y) => karound_ok (h.more hy) v hv)
  have hhd := hid (fun (d : Nat) (hd : In V R d) y (hy : Below w0.heap.size w0 y) => khead_ok (h.more hy) hw d hd)
  have hdl : Hid (∀ d, In V R d → d ≤ 2097152) := hid (fun d hd => low21 h hd)
  have hdlen : Hid (∀ v, v < V → (lf (R v)).length ≤ 2097152) := hid (fun v hv => by
    have h1 : (lf (R v)).length = (R v).length := by unfold lf; rw [rot_len]
    rw [h1]
    have := pig (R v) (List.range (2 * E)) (ht.nd v hv) (fun x hx => List.mem_range.2 ((show In V R x from ⟨v, hv, hx⟩).low ht))
    rw [List.length_range] at this
    omega)
  have hlv : Hid (∀ (l : List Nat) g k ds, Bf V R e o l g k ds → ∀ x, x ∈ l → x < V ∧ ¬ O x) := hid (fun l g k ds hb x hx => by
    refine ⟨hb.lt ht hw ho hx, ?_⟩
    exact Kn.into (P := fun z => ¬ O z) (fun d gd q c => q (by have := hcl (tw d) (gd.tw ht hw) c; rw [tw_tw] at this; exact this)) ⟨_, hb.wk x hx⟩ hno)
  have hlen : Hid (∀ (l : List Nat) g k ds, Bf V R e o l g k ds → l.length ≤ V) := hid (fun l g k ds hb => by
    have := pig l (List.range V) hb.nd (fun x hx => List.mem_range.2 (hlv.out l g k ds hb x hx).1)
    simpa using this)
  have hsee : Hid (∀ (l : List Nat) g k ds d, Bf V R e o l g k ds → l[k]? = some (og V R d) → In V R d → mix st l g (og V R (tw d)) ≠ far → Bf V R e o l g k (ds ++ [d])) := hid (fun l g k ds d hb hk hd hr => by
    refine hb.see hk (fun gd => Classical.byContradiction (fun hn => ?_))
    rw [mix_out _ _ hn] at hr
    have h1 := (hO _ (og_is (hd.tw ht hw)).1).1 hr
    have h2 := hcl (tw d) (gd.tw ht hw) h1
    rw [tw_tw] at h2
    exact (hlv.out l g k ds hb _ (List.mem_of_getElem? hk)).2 h2)
  have hog : Hid (∀ d, In V R d → og V R (tw d) < V) := hid (fun d hd => (og_is (hd.tw ht hw)).1)
  have hins : Hid (∀ v, v < V → ∀ d, d ∈ lf (R v) → In V R d ∧ og V R d = v) := hid (fun v hv d hd => by
    have : d ∈ R v := rot_mem.1 hd
    exact ⟨⟨v, hv, this⟩, og_at ht hv this⟩)
  have hall : Hid (∀ v, v < V → ∀ d, Gn V R e d → og V R d = v → d ∈ lf (R v)) := hid (fun v hv d gd q => by
    have := (og_is gd.1).2
    rw [q] at this
    exact rot_mem.2 this)
  have hgl : Hid (∀ (l : List Nat) g k ds, Bf V R e o l g k ds → ∀ x, x ∈ l → g x < V) := hid (fun l g k ds hb x hx => by
    obtain ⟨i, hi⟩ := List.getElem?_of_mem hx
    have h1 := hb.bd i x hi
    have h2 := (List.getElem?_eq_some_iff.1 hi).1
    have h3 := hlen.out l g k ds hb
    omega)
  have hfr : Hid (far = 9223372036854775807) := hid rfl
  -- the beginning
  have c2 := hm.c2
  have co := hm.at_ ho
  have fo := hm.fz o
  obtain ⟨hm1, hg1⟩ := hm.put o 0
  rw [mix_start st (fun _ => 0) o] at hm1
  have hszw := hm.lt
  have hw0 : Hid (w0.heap.size ≤ w.heap.size) := hid hm.bel.size
  have hsq0 : Hid (Sq w0 w ((w.setCell ⟨sb, o, none⟩ (.int .i64 0)).alloc (.cells #[.int .i64 (o : Int)] 3)) wb tb sb V R e st o (.slice (some ⟨w.heap.size, 0, none⟩) 1 1) [o] (updN (fun _ => 0) o 0) 0 []) := by
    have hb : Below (w.setCell ⟨sb, o, none⟩ (.int .i64 0)).heap.size (w.setCell ⟨sb, o, none⟩ (.int .i64 0)) ((w.setCell ⟨sb, o, none⟩ (.int .i64 0)).alloc (.cells #[.int .i64 (o : Int)] 3)) := balloc _ _
    have hs : (w.setCell ⟨sb, o, none⟩ (.int .i64 0)).heap.size = w.heap.size := by simp [World.setCell]
    refine ⟨hm1.more hb, ?_, Bf.start _, grown_then hg1 (grown_of_below hb none) (fun j q => by cases q)⟩
    have := World.ownsRow_lit (w.setCell ⟨sb, o, none⟩ (.int .i64 0)) #[.int .i64 (o : Int)] 1 (e := 3) (size := 1) (base := w.heap.size) (by rw [hs]; exact Nat.le_refl _) (by unfold maxLen; omega) rfl
    rw [hs] at this
    exact this
  have j1 : (0 : Int) ≤ (o : Int) := by omega
  have j2 : (o : Int) < (V : Int) := by omega
  have hszz := hid hszw
  have hself : Hid (Sp V R e o (o : Int) [o] (updN (fun _ => 0) o 0)) := hid (Sp.self _)
  generalize hoo : st o = so at co
  replace hoo := hid hoo
  clear h ht hw hm1 hg1 hO hcl hno hszw hoo hm
  go_enter Tryz.func35, Tryz.ntmps35
  go_wp2_with fail
  go_step3
  go_upto_region 3 with fail
  generalize (w.setCell ⟨sb, o, none⟩ (.int .i64 0)).alloc (.cells #[.int .i64 (o : Int)] 3) = w1 at hsq0 ⊢
  by_cases ea : (o : Int) = a
  · have t1 : ((o : Int) == a) = true := by simp [ea]
    have fin : Hid (Sp V R e o a [o] (updN (fun _ => 0) o 0)) := by rw [← ea]; exact hself
    clear ea
    go_wp2_with fail
    try rw [Exit.noGoto_ret]
    go_ret
    exact ⟨_, [o], _, rfl, hsq0.out.row, fin.out, hsq0.out.wm, hsq0.out.gb⟩
  have t1 : ((o : Int) == a) = false := by simp [ea]
  clear ea hself
  go_wp2_with fail
  go_step3
  go_wp2_with fail
  go_loopw [7, 8, 9, 11, 12] (fun lv kv _ _ _ wr => ∃ (k : Nat) (l : List Nat) (g : Nat → Nat), k ≤ l.length ∧ kv = .int .i64 (k : Int) ∧ Hid (Sq w0 w wr wb tb sb V R e st o lv l g k []))
    (fun _ kv _ _ _ _ => V - (intOf kv).toNat)
  case atStart => exact ⟨0, [o], _, by simp, by go_num, hsq0⟩
  case round =>
    obtain ⟨k, l, g, hk, rfl, hs⟩ := hrel
    clear hsq0 t1
    obtain ⟨n, hn⟩ : ∃ n, l.length = n := ⟨_, rfl⟩
    have hnV := hlen.out l g k [] hs.out.bf
    rw [hn] at hk hnV
    obtain ⟨al, cl, rfl⟩ : ∃ al cl, u7 = .slice al n cl := by
      obtain ⟨al, cl, h1, _⟩ := own_any hs.out.row
      exact ⟨al, cl, by rw [h1, hn]⟩
    rcases Nat.lt_or_ge k n with hlt | hge
    · obtain ⟨v, hv⟩ : ∃ v, l[k]? = some v := ⟨_, List.getElem?_eq_getElem (by rw [hn]; exact hlt)⟩
      have hvV := (hlv.out l g k [] hs.out.bf v (List.mem_of_getElem? hv)).1
      obtain ⟨g3, q3, c3, e3, _, _, _, hI⟩ := hs.out.row.nl
      obtain ⟨rfl, rfl, rfl⟩ : al = g3 ∧ n = q3 ∧ cl = c3 := by simpa using e3
      obtain ⟨b4, o4, rfl, c4⟩ := hI k _ hv
      have c0 := hs.out.wm.c0
      have hcall := hid (har.out v hvV wr hs.out.wm.bel)
      have j3 : (0 : Int) ≤ (k : Int) := by omega
      have j4 : (k : Int) < (n : Int) := by omega
      replace hn := hid hn
      replace hv := hid hv
      clear e3 hI
      go_wp2_with fail
      refine hcall.out.mono ?_
      rintro x w3 ⟨rv, rfl, hr, b3⟩
      have hbase : w.heap.size ≤ wr.heap.size := hs.out.gb.size
      have hap : Hid (∀ q, rv.ownBlock = some q → (Value.slice (some ⟨b4, o4, none⟩) n cl).ownBlock ≠ some q) := hid (fun q q1 q2 => by
        have h1 := (World.ownsRow.lt hr q q1).1
        have h2 := (World.ownsRow.lt hs.out.row q q2).2
        omega)
      have hr3 : Hid (Rw w.heap.size w3 rv (lf (R v))) := hid (hr.low hbase)
      have hs3 : Hid (Sq w0 w w3 wb tb sb V R e st o (.slice (some ⟨b4, o4, none⟩) n cl) l g k ((lf (R v)).take 0)) := by rw [List.take_zero]; exact hid (hs.out.more b3)
      clear hs hr b3 hcall c0 c4 hbase
      obtain ⟨dg, hdg⟩ : ∃ dg, (lf (R v)).length = dg := ⟨_, rfl⟩
      have hdgl : dg ≤ 2097152 := by rw [← hdg]; exact hdlen.out v hvV
      obtain ⟨ac, cc, rfl⟩ : ∃ ac cc, rv = .slice ac dg cc := by
        obtain ⟨ac, cc, h1, _⟩ := own_any hr3.out
        exact ⟨ac, cc, by rw [h1, hdg]⟩
      replace hdg := hid hdg
      go_wp2_with fail
      go_loopw [7, 11, 12, 42] (fun lv _ _ jv wy => ∃ (j : Nat) (l : List Nat) (g : Nat → Nat), j ≤ dg ∧ jv = .int .i64 (j : Int) ∧ Hid (l[k]? = some v ∧ Sq w0 w wy wb tb sb V R e st o lv l g k ((lf (R v)).take j) ∧ Rw w.heap.size wy (.slice ac dg cc) (lf (R v)) ∧ (∀ q, (Value.slice ac dg cc).ownBlock = some q → lv.ownBlock ≠ some q)))
        (fun _ _ _ jv _ => dg - (intOf jv).toNat)
      case atStart => exact ⟨0, l, g, by omega, by go_num, hid ⟨hv.out, hs3.out, hr3.out, hap.out⟩⟩
      case round =>
        obtain ⟨j, l2, g2, hj, rfl, hst⟩ := hrel
        clear hs3 hr3 hap hv hn j3 j4
        rcases Nat.lt_or_ge j dg with hjd | hjd
        · obtain ⟨d, hd⟩ : ∃ d, (lf (R v))[j]? = some d := ⟨_, List.getElem?_eq_getElem (by rw [hdg.out]; exact hjd)⟩
          obtain ⟨hin, hov⟩ := hins.out v hvV d (List.mem_of_getElem? hd)
          have hdle := hdl.out d hin
          have hyV := hog.out d hin
          have htk : Hid ((lf (R v)).take (j + 1) = (lf (R v)).take j ++ [d]) := hid (ntake hd)
          obtain ⟨hlk, hsq, hR, hAp⟩ := hst.out
          have hsee1 := hid (fun q => hsee.out l2 g2 k _ d hsq.bf (by rw [hov]; exact hlk) hin q)
          obtain ⟨g5, q5, c5, e5, _, _, _, hI⟩ := hR.nl
          obtain ⟨rfl, rfl, rfl⟩ : ac = g5 ∧ dg = q5 ∧ cc = c5 := by simpa using e5
          obtain ⟨b6, o6, rfl, c6⟩ := hI j _ hd
          have c0 := hsq.wm.c0
          have hcall := hid (hhd.out d hin wr hsq.wm.bel)
          have hed := hid (fun y => kedge_ok d y hdle)
          have j5 : (0 : Int) ≤ (j : Int) := by omega
          have j6 : (j : Int) < (dg : Int) := by omega
          replace hsq := hid hsq
          replace hR := hid hR
          replace hAp := hid hAp
          replace hlk := hid hlk
          replace hd := hid hd
          replace hin := hid hin
          replace hov := hid hov
          clear e5 hI hst
          obtain ⟨y, hy⟩ : ∃ y, og V R (tw d) = y := ⟨_, rfl⟩
          rw [hy] at hcall hyV hsee1
          replace hy := hid hy
          obtain ⟨D2, hD2⟩ : ∃ D2, d / 2 = D2 := ⟨_, rfl⟩
          rw [hD2] at hed
          replace hD2 := hid hD2
          go_wp2_with fail
          refine hcall.out.mono ?_
          rintro x w5 ⟨rfl, b5⟩
          have hsq5 := hid (hsq.out.more b5)
          have hR5 := hid (hR.out.more b5)
          clear hcall hsq hR b5 c0 c6
          have hre := hid (fun (b : Bool) (hb : b = true ↔ mix st l2 g2 y ≠ far) z (hz : Below w5.heap.size w5 z) => reached_ok (hsq5.out.wm.more hz) y b hyV hb)
          have c1 := hsq5.out.wm.c1
          by_cases hr : mix st l2 g2 y = far
          · have hre1 := hid (hre.out false (by simp [hr]))
            by_cases he : (D2 : Int) = e
            · have t3 : ((D2 : Int) == e) = true := by simp [he]
              have hnew : Hid (Bf V R e o l2 g2 k ((lf (R v)).take (j + 1))) := by
                rw [htk.out]
                refine hid (hsq5.out.bf.see (by rw [hov.out]; exact hlk.out) (fun gd => absurd ?_ gd.2))
                rw [hD2.out]; exact he
              clear he hr hre hsee1
              go_wp2_with fail
              go_quiet ((first | (go_at_call 34; exact Calls.quiet_of_same ((hre1.out _ (belowN (Below.refl _ _) _)).mono (fun _ _ h => ⟨h.1, h.2.symm⟩))) | (go_at_call 68; exact Calls.quiet_of_same ((hed.out _).mono (fun _ _ h => ⟨h.1, h.2.symm⟩)))))
              have bq := belowN (Below.refl w5.heap.size w5) nq
              have fin := hid (And.intro hlk.out (And.intro (show Sq w0 w (w5.drewN nq) wb tb sb V R e st o u7 l2 g2 k ((lf (R v)).take (j + 1)) from { hsq5.out.more bq with bf := hnew.out }) (And.intro (hR5.out.more bq) hAp.out)))
              clear bq hsq5 hR5 hnew
              generalize w5.drewN nq = w6 at fin ⊢
              go_wp2_with fail
              go_roundw
              case rel => exact ⟨j + 1, l2, g2, by omega, by go_num, fin⟩
              case measure => simp [intOf]; omega
            · have t3 : ((D2 : Int) == e) = false := by simp [he]
              have hyn : y ∉ l2 := fun q => by
                have h1 := hgl.out _ _ _ _ hsq5.out.bf y q
                rw [mix_in _ _ q, hfr.out] at hr
                omega
              have hvl : v ∈ l2 := List.mem_of_getElem? hlk.out
              have hG := hgl.out _ _ _ _ hsq5.out.bf v hvl
              have hbf := hsq5.out.bf.push (d := d) (by rw [hov.out]; exact hlk.out) ⟨hin.out, by rw [hD2.out]; exact he⟩ (by rw [hy.out]; exact hyn)
              rw [hy.out, hov.out, ← htk.out] at hbf
              obtain ⟨G, hGe⟩ : ∃ G, g2 v = G := ⟨_, rfl⟩
              rw [hGe] at hbf hG
              obtain ⟨G1, hG1⟩ : ∃ G1, G + 1 = G1 := ⟨_, rfl⟩
              rw [hG1] at hbf
              have hw1 : IntKind.i64.wrap ((G : Int) + 1) = (G1 : Int) := by rw [IntKind.wrap_i64]; omega
              have hw2 : wrap64 ((G : Int) + 1) = (G1 : Int) := by rw [IntWalk.wrap64_in _ ⟨by omega, by omega⟩]; omega
              have hl2 := hlen.out _ _ _ _ hsq5.out.bf
              replace hbf := hid hbf
              replace hGe := hid hGe
              replace hG1 := hid hG1
              replace hvl := hid hvl
              replace hyn := hid hyn
              replace hr := hid hr
              clear he hre hsee1
              go_wp2_with fail
              go_quiet ((first | (go_at_call 34; exact Calls.quiet_of_same ((hre1.out _ (belowN (Below.refl _ _) _)).mono (fun _ _ h => ⟨h.1, h.2.symm⟩))) | (go_at_call 68; exact Calls.quiet_of_same ((hed.out _).mono (fun _ _ h => ⟨h.1, h.2.symm⟩)))))
              have bq := belowN (Below.refl w5.heap.size w5) nq
              have hsq6 := hid (hsq5.out.more bq)
              have hR6 := hid (hR5.out.more bq)
              clear bq hsq5 hR5 hre1 c1 hed
              generalize w5.drewN nq = w6 at hsq6 hR6 ⊢
              have c2 := hsq6.out.wm.c2
              have cv := hsq6.out.wm.at_ hvV
              rw [mix_in _ _ hvl.out, hGe.out] at cv
              have cy := hsq6.out.wm.at_ hyV
              rw [hr.out] at cy
              have fy := hsq6.out.wm.fz y
              have hszs := hsq6.out.wm.lt
              obtain ⟨hm7, hg7⟩ := hsq6.out.wm.put y G1
              rw [mix_push _ _ _ _ _ hyn.out] at hm7
              have hsb : Hid (sb < w.heap.size ∧ wb < w.heap.size) := hid ⟨hszz.out.2, hszz.out.1⟩
              have hr7 : Rw w.heap.size (w6.setCell ⟨sb, y, none⟩ (.int .i64 (G1 : Int))) u7 l2 := hsq6.out.row.keptA hg7 (fun q q1 q2 => by
                have := (World.ownsRow.lt hsq6.out.row q q1).1
                have h2 : q = sb := by simpa using q2.symm
                have h3 := hsb.out
                omega)
              have hR7 : Rw w.heap.size (w6.setCell ⟨sb, y, none⟩ (.int .i64 (G1 : Int))) (.slice (some ⟨b6, o6, none⟩) dg cc) (lf (R v)) := hR6.out.keptA hg7 (fun q q1 q2 => by
                have := (World.ownsRow.lt hR6.out q q1).1
                have h2 : q = sb := by simpa using q2.symm
                have h3 := hsb.out
                omega)
              have hgb7 := grown_then hsq6.out.gb hg7 (fun j q => .inr q)
              have hbd := (Below.refl (w6.setCell ⟨sb, y, none⟩ (.int .i64 (G1 : Int))).heap.size (w6.setCell ⟨sb, y, none⟩ (.int .i64 (G1 : Int)))).drew
              have h7 := hid (And.intro (hm7.more hbd) (And.intro (hr7.more hbd) (And.intro (hR7.more hbd) (grown_then hgb7 (grown_of_below hbd none) (fun j q => by cases q)))))
              have j7 : (0 : Int) ≤ (v : Int) := by omega
              have j8 : (v : Int) < (V : Int) := by omega
              have j9 : (0 : Int) ≤ (y : Int) := by omega
              have j10 : (y : Int) < (V : Int) := by omega
              have hkk : Hid (far = 9223372036854775807) := hfr
              generalize far = FF at cy
              clear hm7 hg7 hr7 hR7 hgb7 hbd hszs hsq6 hR6
              go_wp2_with fail
              go_region
              generalize (w6.setCell ⟨sb, y, none⟩ (.int .i64 (G1 : Int))).drew = w7 at h7 ⊢
              clear c2 cv cy fy hw1 hw2
              obtain ⟨hm7, hr7, hR7, hgb7⟩ := h7.out
              have hsz7 := hgb7.size
              have hln7 : l2.length ≤ 1048576 := by omega
              have hown : w7.ownsRow w.heap.size 3 1 u7 l2.length (ncs l2) := hr7
              have ba := hid (balloc w7 (.cells #[.int .i64 (y : Int)] 3))
              replace hm7 := hid hm7
              replace hR7 := hid hR7
              replace hgb7 := hid hgb7
              clear h7 hr7
              go_wp2_with (at_builtin; refine wpList_append_own_at _ rfl (.tmp 78) (.tmp 80) 30 rfl w.heap.size 3 i0 _ 1 8 Tryz.underlying30 hif hz0 hz1 hz2 rfl (by decide) _ _ _ rfl (hown.alloc _) ⟨w7.heap.size, 0, none⟩ 1 1 [.int .i64 (y : Int)] rfl rfl (one_new w7 _ _) (by simp [Value.oneCell']) (by unfold maxLen; omega) (by omega) (by simp; omega) ?_; intro v8 w8 ho8 hg8 _ hob; refine Hid.out ?_)
              have hr8 : Rw w.heap.size w8 v8 (l2 ++ [y]) := by
                unfold Rw
                rw [List.length_append, ncs_append]
                exact ho8
              have ha7 := hown.alloc (.cells #[.int .i64 (y : Int)] 3)
              have hm8 := (hm7.out.more ba.out).grow ha7 hw0.out hsb.out.2 hsb.out.1 hg8
              have hR8 := (hR7.out.more ba.out).keptA hg8 (fun q q1 => hAp.out q q1)
              have hAp8 : ∀ q, (Value.slice (some ⟨b6, o6, none⟩) dg cc).ownBlock = some q → v8.ownBlock ≠ some q := fun q q1 q2 => by
                rcases hob with q3 | q3
                · exact hAp.out q q1 (q3.symm.trans q2)
                · rw [q3] at q2
                  have h1 := (World.ownsRow.lt hR7.out q q1).2
                  have h2 : (w7.alloc (.cells #[.int .i64 (y : Int)] 3)).heap.size = q := by simpa using q2
                  simp at h2
                  omega
              have hgb8 : w.grownBy w8 (some sb) := grown_then (grown_then hgb7.out (grown_of_below ba.out none) (fun j q => by cases q)) hg8 (fun j q => .inl ((World.ownsRow.lt ha7 j q).1))
              have hlk8 : (l2 ++ [y])[k]? = some v := by rw [List.getElem?_append_left (List.getElem?_eq_some_iff.1 hlk.out).1]; exact hlk.out
              have h8 : Hid (Sq w0 w w8 wb tb sb V R e st o v8 (l2 ++ [y]) (updN g2 y G1) k ((lf (R v)).take (j + 1))) := hid ⟨hm8, hr8, hbf.out, hgb8⟩
              have fin := hid (And.intro hlk8 (And.intro h8.out (And.intro hR8 hAp8)))
              clear ho8 hg8 hob hr8 ha7 hm8 hR8 hAp8 hgb8 hlk8 hown hm7 hR7 hgb7 ba hAp
              refine hid ?_
              by_cases ey : (y : Int) = a
              · have t4 : ((y : Int) == a) = true := by simp [ey]
                have hfin : Hid (Sp V R e o a (l2 ++ [y]) (updN g2 y G1)) := by
                  rw [← ey]
                  exact hid (hbf.out.stop fin.out.1 (by simp))
                clear ey
                go_wp2_with fail
                try rw [Exit.noGoto_ret]
                go_ret
                exact ⟨_, _, _, rfl, h8.out.row, hfin.out, h8.out.wm, h8.out.gb⟩
              · have t4 : ((y : Int) == a) = false := by simp [ey]
                clear ey
                go_wp2_with fail
                go_roundw
                case rel => exact ⟨j + 1, _, _, by omega, by go_num, fin⟩
                case measure => simp [intOf]; omega
          · have hre1 := hid (hre.out true (by simp [hr]))
            have hnew : Hid (Bf V R e o l2 g2 k ((lf (R v)).take (j + 1))) := by
              rw [htk.out]
              exact hid (hsee1.out hr)
            clear hr hre hsee1
            go_wp2_with fail
            go_quiet ((first | (go_at_call 34; exact Calls.quiet_of_same ((hre1.out _ (belowN (Below.refl _ _) _)).mono (fun _ _ h => ⟨h.1, h.2.symm⟩))) | (go_at_call 68; exact Calls.quiet_of_same ((hed.out _).mono (fun _ _ h => ⟨h.1, h.2.symm⟩)))))
            have bq := belowN (Below.refl w5.heap.size w5) nq
            have fin := hid (And.intro hlk.out (And.intro (show Sq w0 w (w5.drewN nq) wb tb sb V R e st o u7 l2 g2 k ((lf (R v)).take (j + 1)) from { hsq5.out.more bq with bf := hnew.out }) (And.intro (hR5.out.more bq) hAp.out)))
            clear bq hsq5 hR5 hnew
            generalize w5.drewN nq = w6 at fin ⊢
            go_wp2_with fail
            go_roundw
            case rel => exact ⟨j + 1, l2, g2, by omega, by go_num, fin⟩
            case measure => simp [intOf]; omega
        · obtain rfl : j = dg := by omega
          obtain ⟨hlk, hsq, hR, hAp⟩ := hst.out
          rw [List.take_of_length_le (by rw [hdg.out]; exact Nat.le_refl _)] at hsq
          have hbf := hsq.bf.next hlk (hall.out v hvV)
          have hkl : k + 1 ≤ l2.length := (List.getElem?_eq_some_iff.1 hlk).1
          have hkV : Hid (k < V) := hid (by have := hlen.out _ _ _ _ hbf; omega)
          have fin := hid (show Sq w0 w wr wb tb sb V R e st o u7 l2 g2 (k + 1) [] from { hsq with bf := hbf })
          clear hst hlk hsq hR hAp hbf
          go_wp2_with fail
          go_roundw
          case rel => exact ⟨k + 1, l2, g2, hkl, by go_num, fin⟩
          case measure => have := hkV.out; simp [intOf]; omega
    · obtain rfl : k = n := by omega
      have fin := hid (hs.out.bf.full (by rw [hn]; exact Nat.le_refl _) a)
      clear hn
      go_wp2_with fail
      try rw [Exit.noGoto_ret]
      go_ret
      exact ⟨_, l, g, rfl, hs.out.row, fin.out, hs.out.wm, hs.out.gb⟩

end Go.Proofs.YtghpjljnbdjmaaaGreatDoor
