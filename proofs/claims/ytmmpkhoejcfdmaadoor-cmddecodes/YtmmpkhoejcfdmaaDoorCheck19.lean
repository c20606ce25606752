/- cmd's Check, walked. -/
import Derived.Test.YtmmpkhoejcfdmaaDoorFit19
import Derived.Test.YtmmpkhoejcfdmaaDoorAll19
import Derived.Test.YtmmpkhoejcfdmaaDoorRead19
namespace Go.Proofs.YtmmpkhoejcfdmaaDoor
open Go.RowKit
set_option linter.unusedVariables false

/-- An error, or none. -/
def erv (z : Int) : Value := if z = 0 then .nilIface else .iface 62 (.int .i64 z)

/-- A command's cells; a code's parts' cells. -/
abbrev ccs (c : Cm) (dv : Value) : Array Value := #[.int .i64 c.code, .int .u32 (c.a0 : Int), .int .u32 (c.p0 : Int), .int .u32 (c.a1 : Int), .int .u32 (c.p1 : Int), .int .i64 c.s0, .int .i64 c.s1, .int .i32 c.w, dv]
abbrev Pt.cs (p : Pt) : Array Value := #[.int .i64 (p.h : Int), .int .i64 (p.s : Int), .bool p.w, .bool p.d]

/-- A command's block. -/
structure CB (w : World) (b : Nat) (c : Cm) (dv : Value) : Prop where
  blk : w.heap[b]? = some (.cells (ccs c dv) 34 (0, 0))

theorem CB.lt {w : World} {b : Nat} {c : Cm} {dv : Value} (h : CB w b c dv) : b < w.heap.size := (Array.getElem?_eq_some_iff.1 h.blk).1
theorem CB.more {w w' : World} {b : Nat} {c : Cm} {dv : Value} (h : CB w b c dv) (hb : Below w.heap.size w w') : CB w' b c dv := ⟨(hb.block b h.lt).trans h.blk⟩
theorem CB.cells {w : World} {b : Nat} {c : Cm} {dv : Value} (h : CB w b c dv) : w.cell? ⟨b, 0, none⟩ = some (.int .i64 c.code) ∧ w.cell? ⟨b, 1, none⟩ = some (.int .u32 (c.a0 : Int)) ∧ w.cell? ⟨b, 2, none⟩ = some (.int .u32 (c.p0 : Int)) ∧ w.cell? ⟨b, 3, none⟩ = some (.int .u32 (c.a1 : Int)) ∧ w.cell? ⟨b, 4, none⟩ = some (.int .u32 (c.p1 : Int)) ∧ w.cell? ⟨b, 5, none⟩ = some (.int .i64 c.s0) ∧ w.cell? ⟨b, 6, none⟩ = some (.int .i64 c.s1) ∧ w.cell? ⟨b, 7, none⟩ = some (.int .i32 c.w) ∧ w.cell? ⟨b, 8, none⟩ = some dv :=
  ⟨cell_of h.blk rfl, cell_of h.blk rfl, cell_of h.blk rfl, cell_of h.blk rfl, cell_of h.blk rfl, cell_of h.blk rfl, cell_of h.blk rfl, cell_of h.blk rfl, cell_of h.blk rfl⟩

/-- A code's parts' block. -/
structure PB (w : World) (b : Nat) (p : Pt) : Prop where
  blk : w.heap[b]? = some (.cells p.cs 54 (0, 0))

theorem PB.lt {w : World} {b : Nat} {p : Pt} (h : PB w b p) : b < w.heap.size := (Array.getElem?_eq_some_iff.1 h.blk).1
theorem PB.more {w w' : World} {b : Nat} {p : Pt} (h : PB w b p) (hb : Below w.heap.size w w') : PB w' b p := ⟨(hb.block b h.lt).trans h.blk⟩
theorem PB.cells {w : World} {b : Nat} {p : Pt} (h : PB w b p) : w.cell? ⟨b, 0, none⟩ = some (.int .i64 (p.h : Int)) ∧ w.cell? ⟨b, 1, none⟩ = some (.int .i64 (p.s : Int)) ∧ w.cell? ⟨b, 2, none⟩ = some (.bool p.w) ∧ w.cell? ⟨b, 3, none⟩ = some (.bool p.d) :=
  ⟨cell_of h.blk rfl, cell_of h.blk rfl, cell_of h.blk rfl, cell_of h.blk rfl⟩

theorem chk_none {c : Cm} (h : pt c.code = none) : chk c = 10 := by unfold chk; rw [h]
theorem chk_some {c : Cm} {p : Pt} (h : pt c.code = some p) : chk c = if fit p c.s0 c.s1 then (if all p c then (if c.d.length ≤ 67108863 then 0 else 2) else 1) else 3 := by unfold chk; rw [h]

set_option maxRecDepth 100000 in
set_option maxHeartbeats 4000000 in
theorem check_ok (c : Cm) (ad : Option Addr) (n cap : Nat) (hn : c.d.length = n) (w : World) :
    Calls Tryd.prog 13 #[cv c (.slice ad n cap)] w fun e w' => e = .returned (erv (chk c)) ∧ Below w.heap.size w w' := by
  have hC : CB (w.alloc (.cells (ccs c (.slice ad n cap)) 34)) w.heap.size c (.slice ad n cap) := ⟨new_of _ _ _⟩
  have hb := balloc w (.cells (ccs c (.slice ad n cap)) 34)
  replace hn := hid hn
  cases hp : pt c.code with
  | none =>
    have hk := hid (parts_none hp)
    rw [chk_none hp]
    replace hp := hid hp
    replace hC := hid hC
    replace hb := hid hb
    go_enter Tryd.func13, Tryd.ntmps13
    go_wp2_with fail
    refine (hk.out _).mono ?_
    rintro e w2 ⟨rfl, b2⟩
    have hb2 := hid (hb.out.trans (b2.mono hb.out.size))
    clear b2 hb
    go_wp2_with fail
    go_ret
    exact ⟨rfl, hb2.out.trans ((balloc _ _).mono hb2.out.size)⟩
  | some p =>
    have hk := hid (parts_some hp)
    have hf := hid (fit_ok p c.s0 c.s1 (pt_is hp).1 (pt_is hp).2.2.1)
    have ha := hid (all_ok hp c ad n cap hn.out)
    obtain ⟨E, hE⟩ : ∃ E, chk c = E := ⟨_, rfl⟩
    rw [hE]
    rw [chk_some hp, hn.out] at hE
    replace hE := hid hE
    replace hp := hid hp
    replace hC := hid hC
    replace hb := hid hb
    go_enter Tryd.func13, Tryd.ntmps13
    go_wp2_with fail
    refine (hk.out _).mono ?_
    rintro e w2 ⟨rfl, b2⟩
    have hC2 := hC.out.more b2
    have hb2 := hb.out.trans (b2.mono hb.out.size)
    have b3 := balloc w2 (.cells p.cs 54)
    have hP3 : PB (w2.alloc (.cells p.cs 54)) w2.heap.size p := ⟨new_of _ _ _⟩
    have hC3 := hC2.more b3
    have hb3 := hid (hb2.trans (b3.mono hb2.size))
    obtain ⟨B, hB⟩ : ∃ B, w.heap.size = B := ⟨_, rfl⟩
    rw [hB] at hC3 ⊢
    clear b2 hb hC hC2 hk b3
    go_upto_region 2 with fail
    obtain ⟨w3, hw3⟩ : ∃ w3, w2.alloc (.cells p.cs 54) = w3 := ⟨_, rfl⟩
    rw [hw3] at hP3 hC3 hb3 ⊢
    obtain ⟨Q, hQ⟩ : ∃ Q, w2.heap.size = Q := ⟨_, rfl⟩
    rw [hQ] at hP3 ⊢
    clear hw3 hQ hb2
    obtain ⟨c0, c1, c2, c3, c4, c5, c6, c7, c8⟩ := hC3.cells
    obtain ⟨p0, p1, p2, p3⟩ := hP3.cells
    replace hC3 := hid hC3
    replace hP3 := hid hP3
    replace hB := hid hB
    go_wp2_with fail
    refine (hf.out _).mono ?_
    rintro e w4 ⟨rfl, b4⟩
    have hC4 := hC3.out.more b4
    have hP4 := hP3.out.more b4
    have hb4 := hid (hb3.out.trans (b4.mono hb3.out.size))
    clear c0 c1 c2 c3 c4 c5 c6 c7 c8 p0 p1 p2 p3 hf b4 hC3 hP3 hb3
    obtain ⟨c0, c1, c2, c3, c4, c5, c6, c7, c8⟩ := hC4.cells
    obtain ⟨p0, p1, p2, p3⟩ := hP4.cells
    replace hC4 := hid hC4
    replace hP4 := hid hP4
    cases hfv : fit p c.s0 c.s1
    · have hE3 := hE.out
      rw [hfv, if_neg (by decide)] at hE3
      clear hfv hE
      replace hE3 := hid hE3
      go_wp2_with fail
      go_ret
      rw [← hB.out]
      exact ⟨by rw [← hE3.out]; rfl, hb4.out⟩
    · rw [hfv, if_pos rfl] at hE
      clear hfv
      go_wp2_with fail
      refine (ha.out _).mono ?_
      rintro e w5 ⟨rfl, b5⟩
      have hC5 := hC4.out.more b5
      have hb5 := hid (hb4.out.trans (b5.mono hb4.out.size))
      clear c0 c1 c2 c3 c4 c5 c6 c7 c8 p0 p1 p2 p3 ha b5 hC4 hP4 hb4
      obtain ⟨c0, c1, c2, c3, c4, c5, c6, c7, c8⟩ := hC5.cells
      replace hC5 := hid hC5
      cases hav : all p c
      · have hE3 := hE.out
        rw [hav, if_neg (by decide)] at hE3
        clear hav hE
        replace hE3 := hid hE3
        go_wp2_with fail
        go_ret
        rw [← hB.out]
        exact ⟨by rw [← hE3.out]; rfl, hb5.out⟩
      · rw [hav, if_pos rfl] at hE
        clear hav
        rcases Nat.lt_or_ge 67108863 n with h | h
        · have h' : (67108863 : Int) < (n : Int) := by omega
          have hh : ¬ n ≤ 67108863 := by omega
          have hE3 := hE.out
          rw [if_neg hh] at hE3
          replace hE3 := hid hE3
          clear hh h hE
          go_wp2_with fail
          go_ret
          rw [← hB.out]
          exact ⟨by rw [← hE3.out]; rfl, hb5.out⟩
        · have h' : ¬ (67108863 : Int) < (n : Int) := by omega
          have hE3 := hE.out
          rw [if_pos h] at hE3
          replace hE3 := hid hE3
          clear h hE
          go_wp2_with fail
          go_ret
          rw [← hB.out]
          exact ⟨by rw [← hE3.out]; rfl, hb5.out⟩

end Go.Proofs.YtmmpkhoejcfdmaaDoor
