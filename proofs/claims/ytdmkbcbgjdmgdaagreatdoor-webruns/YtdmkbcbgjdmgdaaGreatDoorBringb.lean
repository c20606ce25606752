/- New Rings; Merge; split and merged whatever comes. The library's Index, Grow and Concat, walked. The library's Concat, walked. A cycle from an item on: 'Walk', walked. Numbers in a new row. What the laws ask of cycles, in lists alone. The reference's lists held against the sequences: in lists alone. -/
import Derived.Test.YtdmkbcbgjdmgdaaGreatDoorBseqc
import Derived.Test.YtdmkbcbgjdmgdaaGreatDoorBring
import Derived.Lib.AppendZerosOnto
import Derived.Deep.RegionHeld3
namespace Go.Proofs.YtdmkbcbgjdmgdaaGreatDoor
open Go.RowKit
set_option linter.unusedVariables false

/-- What stands at a place of an array of two. -/
theorem pair_at (x y : Int) (w : World) : (Instr.index 56 (.agg #[.int .i64 x, .int .i64 y]) (.int .i64 0)).run Tryz.prog w = .ok (.int .i64 x) w ∧ (Instr.index 56 (.agg #[.int .i64 x, .int .i64 y]) (.int .i64 1)).run Tryz.prog w = .ok (.int .i64 y) w := by
  have hi := info_parts infoInt
  obtain ⟨i0, hif, hz0, hz1, hz2⟩ := hi
  constructor <;> simp [Instr.index, asIntOf, run_underlying Tryz.underlying56, part, Go.sizeOf, typeInfo, hif, hz1, isAgg, run_underlying Tryz.underlying3, go_sem]

def TT (k : Nat) (seq : Nat → List Nat) (x y : Nat) (sq : Nat → List Nat) : Prop := sq = if k = 0 then seq else if k = 1 then turnS seq x else turnS (turnS seq x) y

section
variable {lo rb fb n : Nat} {w w0 : World} {v : Nat → Int} {seq : Nat → List Nat}

set_option maxRecDepth 100000 in
set_option maxHeartbeats 1000000 in
theorem RG.merge (h : RG lo w rb fb n v seq w0) (x y : Nat) (hx : x < n) (hy : y < n) (hin : y + 1 ∉ seq (x + 1)) :
    Calls Tryz.prog 55 #[.pointer (some ⟨rb, 0, none⟩), .int .i64 (x : Int), .int .i64 (y : Int)] w0 fun e w' => e = .returned .nilIface ∧ RG lo w rb fb n v (mrgS seq (x + 1) (y + 1)) w' ∧ Keep w0 w' := by
  have p := h.fs.part
  have hne : seq (x + 1) ≠ seq (y + 1) := fun e => hin ((p.one (by omega) (by omega)).1 e)
  have hs := hid (h.same x y hx hy false (decide_eq_false hne))
  obtain ⟨m1, m2⟩ := merge_is p (show x + 1 ≠ 0 by omega) (show y + 1 ≠ 0 by omega) hne
  replace m1 := hid m1
  replace m2 := hid m2
  clear h hin hne p
  go_enter Tryz.func55, Tryz.ntmps55
  go_wp2_with fail
  refine hs.out.mono ?_
  rintro e w2 ⟨rfl, g2, k2⟩
  have st2 : Hid (∃ sq, TT 0 seq (x + 1) (y + 1) sq ∧ RG lo w rb fb n v sq w2 ∧ Keep w0 w2) := hid ⟨seq, rfl, g2, k2⟩
  clear hs g2 k2
  go_wp2_with fail
  go_loopw [10, 11, 27] (fun _ _ u wr => ∃ k : Nat, k ≤ 2 ∧ u = .int .i64 (k : Int) ∧ Hid (∃ sq, TT k seq (x + 1) (y + 1) sq ∧ RG lo w rb fb n v sq wr ∧ Keep w0 wr)) (fun _ _ u _ => 2 - (intOf u).toNat)
  case atStart => exact ⟨0, by omega, by go_num, st2⟩
  case round =>
    clear st2
    obtain ⟨k, hk, rfl, hst⟩ := hrel
    have hkc : k = 0 ∨ k = 1 ∨ k = 2 := by omega
    rcases hkc with rfl | rfl | rfl
    · obtain ⟨sq, h0, g3, k3⟩ := hst.out
      have h0 : sq = seq := h0
      rw [h0] at g3
      clear h0
      have hi0 := (pair_at (x : Int) (y : Int) wr).1
      have ht := hid (g3.turn x hx)
      have k3 := hid k3
      clear hst g3
      go_wp2_with fail
      refine ht.out.mono ?_
      rintro e w4 ⟨rfl, g4, k4⟩
      have st4 : Hid (∃ sq, TT 1 seq (x + 1) (y + 1) sq ∧ RG lo w rb fb n v sq w4 ∧ Keep w0 w4) := hid ⟨_, rfl, g4, k3.out.trans k4⟩
      clear ht g4 k4
      go_wp2_with fail
      go_roundw
      case rel => exact ⟨1, by omega, by go_num, st4⟩
      case measure => simp [intOf]
    · obtain ⟨sq, h0, g3, k3⟩ := hst.out
      have h0 : sq = turnS seq (x + 1) := h0
      rw [h0] at g3
      clear h0
      have hi0 := (pair_at (x : Int) (y : Int) wr).2
      have ht := hid (g3.turn y hy)
      have k3 := hid k3
      clear hst g3
      go_wp2_with fail
      refine ht.out.mono ?_
      rintro e w4 ⟨rfl, g4, k4⟩
      have st4 : Hid (∃ sq, TT 2 seq (x + 1) (y + 1) sq ∧ RG lo w rb fb n v sq w4 ∧ Keep w0 w4) := hid ⟨_, rfl, g4, k3.out.trans k4⟩
      clear ht g4 k4
      go_wp2_with fail
      go_roundw
      case rel => exact ⟨2, by omega, by go_num, st4⟩
      case measure => simp [intOf]
    · obtain ⟨sq, h0, g3, k3⟩ := hst.out
      have h0 : sq = turnS (turnS seq (x + 1)) (y + 1) := h0
      rw [h0] at g3
      clear h0
      have hk3 := hid (kept_ok g3.rb)
      have hj := hid (g3.fs.join x y hx hy m2.out)
      have g3 := hid g3
      have k3 := hid k3
      clear hst
      go_wp2_with fail
      refine hk3.out.mono ?_
      rintro e w4 ⟨rfl, rfl⟩
      go_wp2_with fail
      refine hj.out.mono ?_
      rintro e w5 ⟨rfl, h5, k5⟩
      rw [m1.out] at h5
      have fin := hid (And.intro (g3.out.after k5 h5) (k3.out.trans k5))
      clear hj hk3 h5 k5
      go_wp2_with fail
      go_ret
      exact ⟨rfl, fin.out⟩

/-- Split, or not; merged, or not: Rings they are. -/
theorem RG.splitAny (h : RG lo w rb fb n v seq w0) (x y : Nat) (hx : x < n) (hy : y < n) :
    Calls Tryz.prog 52 #[.pointer (some ⟨rb, 0, none⟩), .int .i64 (x : Int), .int .i64 (y : Int)] w0 fun e w' => ∃ u, e = .returned u ∧ ∃ seq', RG lo w rb fb n v seq' w' := by
  by_cases e : y + 1 ∈ seq (x + 1)
  · by_cases e2 : x = y
    · subst e2
      refine (h.split_self x hx).mono ?_
      rintro e w' ⟨rfl, h1, k1⟩
      exact ⟨_, rfl, _, h1⟩
    · refine (h.split x y hx hy e2 e).mono ?_
      rintro e w' ⟨rfl, h1, k1⟩
      exact ⟨_, rfl, _, h1⟩
  · refine (h.split_apart x y hx hy e).mono ?_
    rintro e w' ⟨rfl, h1, k1⟩
    exact ⟨_, rfl, _, h1⟩

theorem RG.mergeAny (h : RG lo w rb fb n v seq w0) (x y : Nat) (hx : x < n) (hy : y < n) :
    Calls Tryz.prog 55 #[.pointer (some ⟨rb, 0, none⟩), .int .i64 (x : Int), .int .i64 (y : Int)] w0 fun e w' => ∃ u, e = .returned u ∧ ∃ seq', RG lo w rb fb n v seq' w' := by
  by_cases e : y + 1 ∈ seq (x + 1)
  · refine (h.merge_same x y hx hy e).mono ?_
    rintro e w' ⟨rfl, h1, k1⟩
    exact ⟨_, rfl, _, h1⟩
  · refine (h.merge x y hx hy e).mono ?_
    rintro e w' ⟨rfl, h1, k1⟩
    exact ⟨_, rfl, _, h1⟩
end

set_option maxRecDepth 100000 in
set_option maxHeartbeats 1000000 in
theorem gnew_ok (n : Nat) (w : World) (h1 : 1 ≤ n) (h2 : n ≤ 8388608) : Calls Tryz.prog 27 #[.int .i64 (n : Int)] w fun e w' => ∃ rb fb, e = .returned (.tuple #[.pointer (some ⟨rb, 0, none⟩), .nilIface]) ∧ RG w.heap.size w rb fb n zero one w' := by
  have hn := hid (new_ok n w h1 h2)
  go_enter Tryz.func27, Tryz.ntmps27
  go_wp2_with fail
  refine hn.out.mono ?_
  rintro e w1 ⟨fb, rfl, f1⟩
  have fin : Hid (RG w.heap.size w w1.heap.size fb n zero one (w1.alloc (.cells #[.pointer (some ⟨fb, 0, none⟩)] 98))) := hid ⟨f1.alloc _, heap_alloc_new w1 _⟩
  clear hn f1
  go_wp2_with fail
  go_ret2
  exact ⟨_, fb, rfl, fin.out⟩

set_option maxRecDepth 100000 in
set_option maxHeartbeats 1000000 in
theorem gnew_bad (n : Int) (w : World) (hn : n < 1 ∨ 8388608 < n) : Calls Tryz.prog 27 #[.int .i64 n] w fun e w' => e = .returned (.tuple #[.pointer none, .iface 63 (.int .i64 1)]) ∧ w = w' := by
  have hb := hid (new_bad n w hn)
  clear hn
  go_enter Tryz.func27, Tryz.ntmps27
  go_wp2_with fail
  refine hb.out.mono ?_
  rintro e w1 ⟨rfl, rfl⟩
  go_wp2_with fail
  go_ret2
  exact ⟨rfl, rfl⟩

end Go.Proofs.YtdmkbcbgjdmgdaaGreatDoor

namespace Go.Proofs.YtdmkbcbgjdmgdaaGreatDoor
open Go.RowKit
set_option linter.unusedVariables false

theorem below_grown {w0 w w' : World} {B base n size : Nat} {e : TypeId} {v : Value} {xs : List Value} (hb : Below B w0 w) (hlo : B ≤ w0.heap.size) (ho : w.ownsRow base e size v n xs) (hB : B ≤ base) (hg : w.grownBy w' v.ownBlock) : Below B w0 w' := by
  have ht : Turned (fun j => v.ownBlock = some j) w w' := ⟨hg.os, hg.tape, hg.output, hg.size, fun k hk ho => hg.block k hk (fun e => ho e.symm)⟩
  exact hb.trans (ht.below (fun j hj => Nat.le_trans hB (ho.lt j hj).1) (Nat.le_trans hlo hb.size))

set_option maxRecDepth 100000 in
set_option maxHeartbeats 1000000 in
theorem index_ok (g cap x : Nat) (A B : List Nat) (w : World) (hc : ∀ j d : Nat, (A ++ (x + 1) :: B)[j]? = some (d + 1) → w.cell? ⟨g, j, none⟩ = some (.int .i64 (d : Int))) (hnz : ∀ z ∈ A ++ (x + 1) :: B, z ≠ 0) (hA : x + 1 ∉ A) (M : Nat) (hM : (A ++ (x + 1) :: B).length = M) (hlen : M ≤ 8388620) :
    Calls Tryz.prog 76 #[.slice (some ⟨g, 0, none⟩) M cap, .int .i64 (x : Int)] w fun e w' => e = .returned (.int .i64 (A.length : Int)) ∧ w = w' := by
  have hc := hid hc
  have hnz := hid hnz
  have hA := hid hA
  have hAM : A.length < M := by rw [← hM]; simp
  have hM := hid hM
  go_enter Tryz.func76, Tryz.ntmps76
  go_wp2_with fail
  go_loopw [5, 8] (fun _ u wr => ∃ k : Nat, k ≤ A.length ∧ u = .int .i64 (k : Int) ∧ w = wr) (fun _ u _ => A.length - (intOf u).toNat)
  case atStart => exact ⟨0, by omega, by go_num, rfl⟩
  case round =>
    obtain ⟨k, hk, rfl, rfl⟩ := hrel
    have hkM : k < M := by omega
    obtain ⟨z, hz⟩ : ∃ z, (A ++ (x + 1) :: B)[k]? = some z := ⟨_, List.getElem?_eq_getElem (by rw [hM.out]; exact hkM)⟩
    have hzn := hnz.out z (List.mem_of_getElem? hz)
    obtain ⟨y, rfl⟩ : ∃ y, z = y + 1 := ⟨z - 1, by omega⟩
    have c1 := hc.out k y hz
    have k1 : (0 : Int) ≤ (k : Int) := by omega
    have k2 : (k : Int) < (M : Int) := by omega
    rcases Nat.lt_or_ge k A.length with hlt | hge
    · have hyx : y ≠ x := fun e => by
        subst e
        rw [List.getElem?_append_left hlt] at hz
        exact hA.out (List.mem_of_getElem? hz)
      have t1 : ((x : Int) == (y : Int)) = false := by rw [beq_eq_false_iff_ne]; omega
      clear hz
      go_wp2_with fail
      go_roundw
      case rel => exact ⟨k + 1, by omega, by go_num, by trivial⟩
      case measure => simp [intOf]; omega
    · have hkA : k = A.length := by omega
      have hyx : y = x := by
        rw [List.getElem?_append_right hge, hkA] at hz
        simp at hz
        exact hz.symm
      subst hyx
      clear hz
      subst hkA
      go_wp2_with fail
      go_ret
      exact ⟨rfl, rfl⟩

theorem wpList_append_run {P : Program} {ops : Array Oper} {rest : List Oper} {o : Oper} {a : Act} {w w' : World} {v' : Value} {Q : Exit → Act → World → Prop} (hgd : o.guard = none) (s x : Operand) (t t' : TypeId) (ho : o.op = .call { callee := .builtin .append, args := #[s, x], argTypes := #[t, t'] })
    (u y : Value) (hu : a.eval s = u) (hy : a.eval x = y) (hr : (Builtin.append_ #[t, t'] o.type #[u, y]).run P w = .ok v' w') (h : wpList P ops Q rest (a.put o.dst v') w') : wpList P ops Q (o :: rest) a w :=
  wpList_plain hgd fun _ hK => by
    unfold Oper.wp execOp
    simp only [ho, resolve, invoke, builtin, Sem.run_bind, Sem.run_pure, Result.andThen_ok, List.map_toArray, List.map_cons, List.map_nil, hu, hy, hr]
    exact hK _ _ h

set_option maxRecDepth 100000 in
set_option maxHeartbeats 2000000 in
theorem grow_ok (m : Nat) (w : World) (h1 : 1 ≤ m) (h2 : m ≤ 16777240) :
    Calls Tryz.prog 108 #[.slice none 0 0, .int .i64 (m : Int)] w fun e w' => ∃ u, e = .returned u ∧ w'.ownsRow w.heap.size 3 1 u 0 [] ∧ Below w.heap.size w w' := by
  obtain ⟨i0, hif, hz0, hz1, hz2⟩ := info_parts infoInt
  have hrz : ∀ ty, (Builtin.append_ #[47, 3] ty #[.slice none 0 0, .int .i64 (m : Int)]).run Tryz.prog w = .ok (.slice (some ⟨w.heap.size, 0, none⟩) m (grownCap w m 0 3)) (w.drew.alloc (.cells (([] : List Value).toArray ++ Builtin.zeroCells (Value.int .i64 0).cells m ++ Builtin.zeroCells (Value.int .i64 0).cells (grownCap w m 0 3 - m)) 3)) := fun ty => by
    have h := Lib.run_append_grow_zeros w 47 3 ty 3 i0 (.int .i64 0) .i64 .i64 Tryz.underlying47 Tryz.underlying3 hif hz0 none 0 0 [] (run_firstCells_none w.drew i0.size 0 0 0) m (by omega) (by omega) (by omega) (by omega) (by rw [hz2]; omega) (by rw [hz2]; exact growslice_fits (by omega) (by omega))
    simpa using h
  have hG := grownCap_ge w m 0 3
  have hG2 : grownCap w m 0 3 ≤ maxLen := grownCap_le_maxLen w m 0 3 (by unfold maxLen; omega)
  obtain ⟨G, hGe⟩ : ∃ G, grownCap w m 0 3 = G := ⟨_, rfl⟩
  rw [hGe] at hrz hG hG2
  have hG3 : G ≤ 9223372036854775807 := by unfold maxLen at hG2; omega
  obtain ⟨cur, hcur⟩ : ∃ cur, (([] : List Value).toArray ++ Builtin.zeroCells (Value.int .i64 0).cells m ++ Builtin.zeroCells (Value.int .i64 0).cells (G - m)) = cur := ⟨_, rfl⟩
  rw [hcur] at hrz
  have hcs : cur.size = G * 1 := by rw [← hcur]; simp [Builtin.zeroCells, Value.cells]; omega
  have hfin : Hid ((w.drew.alloc (.cells cur 3)).ownsRow w.heap.size 3 1 (.slice (some ⟨w.heap.size, 0, none⟩) 0 G) 0 []) := hid (World.ownsRow_made w.drew cur G (by simp) hG2 hcs)
  have hbel : Hid (Below w.heap.size w (w.drew.alloc (.cells cur 3))) := hid ((Below.refl _ _).drew.alloc (by simp) _)
  obtain ⟨W1, hW1⟩ : ∃ W1, w.drew.alloc (.cells cur 3) = W1 := ⟨_, rfl⟩
  rw [hW1] at hrz hfin hbel
  replace hrz := hid hrz
  clear hcur hcs hGe hif hz0 hz1 hz2 hG2 hW1
  have t1 : decide ((m : Int) < 0) = false := decide_eq_false (by omega)
  have t2 : decide ((0 : Int) < (m : Int)) = true := decide_eq_true (by omega)
  go_enter Tryz.func108, Tryz.ntmps108
  go_wp2_with (at_builtin; refine wpList_append_run rfl (.tmp 20) (.tmp 21) 47 3 rfl _ _ rfl rfl (hrz.out _) ?_)
  go_ret
  exact ⟨_, rfl, hfin.out, hbel.out⟩

/-- From this place on the items of these nodes lie. -/
def Sl (w : World) (ad : Addr) (l : List Nat) : Prop := ∀ j u, (l.map itm)[j]? = some u → w.cell? (ad.add j) = some u

theorem Sl.below {w w' : World} {ad : Addr} {l : List Nat} (h : Sl w ad l) (hb : Below w.heap.size w w') : Sl w' ad l := fun j u hu => by
  have hc := h j u hu
  rw [hb.cell (World.block_lt_of_cell? w _ hc)]
  exact hc

end Go.Proofs.YtdmkbcbgjdmgdaaGreatDoor

namespace Go.Proofs.YtdmkbcbgjdmgdaaGreatDoor
open Go.RowKit
set_option linter.unusedVariables false

set_option maxRecDepth 100000 in
set_option maxHeartbeats 4000000 in
theorem concat_ok (sb : Nat) (a1 a2 : Addr) (c1 c2 : Nat) (l1 l2 : List Nat) (w : World) (hs : w.heap[sb]? = some (.cells #[.slice (some a1) l1.length c1, .slice (some a2) l2.length c2] 47 (0, 0))) (h1 : Sl w a1 l1) (h2 : Sl w a2 l2) (hp : 1 ≤ l1.length + l2.length) (hl : l1.length + l2.length ≤ 16777240) :
    Calls Tryz.prog 77 #[.slice (some ⟨sb, 0, none⟩) 2 2] w fun e w' => ∃ u, e = .returned u ∧ w'.ownsRow w.heap.size 3 1 u (l1 ++ l2).length ((l1 ++ l2).map itm) ∧ Below w.heap.size w w' := by
  obtain ⟨i0, hif, hz0, hz1, hz2⟩ := info_parts infoInt
  have hcs : ∀ y, Below w.heap.size w y → y.cell? ⟨sb, 0, none⟩ = some (.slice (some a1) l1.length c1) ∧ y.cell? ⟨sb, 1, none⟩ = some (.slice (some a2) l2.length c2) := fun y hy => by
    have e := (hy.block sb (Array.getElem?_eq_some_iff.1 hs).1).trans hs
    constructor <;> (unfold World.cell?; rw [e]; simp)
  obtain ⟨q1, q2⟩ := hcs w (Below.refl _ _)
  replace hcs := hid hcs
  replace h1 := hid h1
  replace h2 := hid h2
  obtain ⟨n1, hn1⟩ : ∃ k, l1.length = k := ⟨_, rfl⟩
  obtain ⟨n2, hn2⟩ : ∃ k, l2.length = k := ⟨_, rfl⟩
  rw [hn1, hn2] at hcs hp hl
  rw [hn1] at q1
  rw [hn2] at q2
  replace hn1 := hid hn1
  replace hn2 := hid hn2
  clear hs
  go_enter Tryz.func77, Tryz.ntmps77
  go_wp2_with fail
  go_loopw [3, 5, 11] (fun s _ u wr => ∃ k z : Nat, k ≤ 2 ∧ u = .int .i64 (k : Int) ∧ s = .int .i64 (z : Int) ∧ Hid (z = if k = 0 then 0 else if k = 1 then n1 else n1 + n2) ∧ z ≤ n1 + n2 ∧ w = wr) (fun _ _ u _ => 2 - (intOf u).toNat)
  case atStart => exact ⟨0, 0, by omega, by go_num, by go_num, hid rfl, by omega, rfl⟩
  case round =>
    obtain ⟨k, z, hk, rfl, rfl, hz, hzl, rfl⟩ := hrel
    have hkc : k = 0 ∨ k = 1 ∨ k = 2 := by omega
    rcases hkc with rfl | rfl | rfl
    · obtain rfl : z = 0 := hz.out
      go_wp2_with fail
      go_roundw
      case rel => exact ⟨1, n1, by omega, by go_num, by go_num, hid rfl, by omega, by trivial⟩
      case measure => simp [intOf]
    · obtain rfl : n1 = z := hz.out.symm
      have t1 : decide ((n1 : Int) + (n2 : Int) < 0) = false := decide_eq_false (by omega)
      go_wp2_with fail
      go_roundw
      case rel => exact ⟨2, n1 + n2, by omega, by go_num, by go_num, hid rfl, by omega, by trivial⟩
      case measure => simp [intOf]
    · replace hz := hz.out
      simp at hz
      have hg := hid (grow_ok z w (by omega) (by omega))
      replace hz := hid hz
      go_wp2_with fail
      refine hg.out.mono ?_
      rintro e w1 ⟨u1, rfl, ho1, b1⟩
      have st1 := hid (And.intro ho1 b1)
      clear hg ho1 b1
      go_wp2_with fail
      go_loopw [6, 8, 27] (fun o _ u wr => ∃ k : Nat, k ≤ 2 ∧ u = .int .i64 (k : Int) ∧ Hid (∃ done, (k = 0 → done = []) ∧ (k = 1 → done = l1) ∧ (k = 2 → done = l1 ++ l2) ∧ wr.ownsRow w.heap.size 3 1 o done.length (done.map itm) ∧ Below w.heap.size w wr)) (fun _ _ u _ => 2 - (intOf u).toNat)
      case atStart => exact ⟨0, by omega, by go_num, hid ⟨[], fun _ => rfl, (fun e => by cases e), (fun e => by cases e), st1.out.1, st1.out.2⟩⟩
      case round =>
        clear st1
        obtain ⟨k, hk, rfl, hst⟩ := hrel
        have hkc : k = 0 ∨ k = 1 ∨ k = 2 := by omega
        rcases hkc with rfl | rfl | rfl
        · obtain ⟨done, hd, _, _, ho, hb⟩ := hst.out
          have ho : wr.ownsRow w.heap.size 3 1 u6 0 [] := by have := ho; rw [hd rfl] at this; exact this
          obtain ⟨q3, q4⟩ := hcs.out wr hb
          have hn := h1.out.below hb
          have hsz := hb.size
          go_wp2_with (at_builtin; refine wpList_append_own wr rfl (.tmp 31) (.tmp 32) 47 rfl w.heap.size 3 i0 _ 1 8 Tryz.underlying47 hif hz0 hz1 hz2 rfl (by decide) _ _ _ rfl ho a1 n1 c1 (l1.map itm) rfl (by simp [hn1.out]) hn (itm_one _) (by unfold maxLen; omega) (by omega) hsz ?_; intro v5 w5 ho5 hg5 _; refine Hid.out ?_)
          have st5 : Hid (∃ done, ((1 : Nat) = 0 → done = []) ∧ ((1 : Nat) = 1 → done = l1) ∧ ((1 : Nat) = 2 → done = l1 ++ l2) ∧ w5.ownsRow w.heap.size 3 1 v5 done.length (done.map itm) ∧ Below w.heap.size w w5) := hid ⟨l1, (fun e => by cases e), fun _ => rfl, (fun e => by cases e), by rw [hn1.out, ← List.nil_append (l1.map itm), ← Nat.zero_add n1]; exact ho5, below_grown hb (Nat.le_refl _) ho (Nat.le_refl _) hg5⟩
          clear ho hb ho5 hg5 q3 q4 hn hst
          refine hid ?_
          go_wp2_with fail
          go_roundw
          case rel => exact ⟨1, by omega, by go_num, st5⟩
          case measure => simp [intOf]
        · obtain ⟨done, _, hd, _, ho, hb⟩ := hst.out
          have ho : wr.ownsRow w.heap.size 3 1 u6 n1 (l1.map itm) := by have := ho; rw [hd rfl, hn1.out] at this; exact this
          obtain ⟨q3, q4⟩ := hcs.out wr hb
          have hn := h2.out.below hb
          have hsz := hb.size
          go_wp2_with (at_builtin; refine wpList_append_own wr rfl (.tmp 31) (.tmp 32) 47 rfl w.heap.size 3 i0 _ 1 8 Tryz.underlying47 hif hz0 hz1 hz2 rfl (by decide) _ _ _ rfl ho a2 n2 c2 (l2.map itm) rfl (by simp [hn2.out]) hn (itm_one _) (by unfold maxLen; omega) (by omega) hsz ?_; intro v5 w5 ho5 hg5 _; refine Hid.out ?_)
          have st5 : Hid (∃ done', ((2 : Nat) = 0 → done' = []) ∧ ((2 : Nat) = 1 → done' = l1) ∧ ((2 : Nat) = 2 → done' = l1 ++ l2) ∧ w5.ownsRow w.heap.size 3 1 v5 done'.length (done'.map itm) ∧ Below w.heap.size w w5) := hid ⟨l1 ++ l2, (fun e => by cases e), (fun e => by cases e), fun _ => rfl, by rw [List.length_append, hn1.out, hn2.out, List.map_append]; exact ho5, below_grown hb (Nat.le_refl _) ho (Nat.le_refl _) hg5⟩
          clear ho hb ho5 hg5 q3 q4 hn hst
          refine hid ?_
          go_wp2_with fail
          go_roundw
          case rel => exact ⟨2, by omega, by go_num, st5⟩
          case measure => simp [intOf]
        · obtain ⟨done, _, _, hd, ho, hb⟩ := hst.out
          rw [hd rfl] at ho
          have fin := hid (And.intro ho hb)
          clear ho hb hst
          go_wp2_with fail
          go_ret
          refine ⟨_, rfl, ?_, fin.out.2⟩
          have hf := fin.out.1
          rw [List.length_append, List.map_append] at hf
          exact hf

end Go.Proofs.YtdmkbcbgjdmgdaaGreatDoor

namespace Go.Proofs.YtdmkbcbgjdmgdaaGreatDoor
open Go.RowKit
set_option linter.unusedVariables false

section
variable {lo rb fb n : Nat} {w w0 : World} {v : Nat → Int} {seq : Nat → List Nat}

theorem Rw.sl {w : World} {u : Value} {l : List Nat} (h : Rw w u l) (hl : l ≠ []) (M : Nat) (hM : l.length = M) : ∃ g cap, u = .slice (some ⟨g, 0, none⟩) M cap ∧ M ≤ cap ∧ cap ≤ maxLen ∧ ∀ (j d : Nat), l[j]? = some d → w.cell? ⟨g, j, none⟩ = some (itm d) := by
  subst hM
  obtain ⟨base, ho⟩ := h
  rcases ho.2 with ⟨rfl, hn⟩ | ⟨g, cap, cur, rfl, _, _, h1, h2, _⟩
  · exact absurd (List.eq_nil_of_length_eq_zero hn) hl
  · refine ⟨g, cap, rfl, h1, h2, fun j d hd => ?_⟩
    have hj := (List.getElem?_eq_some_iff.1 hd).1
    rw [ho.cellAt j (by simpa using hj)]
    simp [hd]

set_option maxRecDepth 100000 in
set_option maxHeartbeats 1000000 in
theorem RG.walkN (h : RG lo w rb fb n v seq w0) (x : Nat) (hx : x < n) :
    Calls Tryz.prog 48 #[.pointer (some ⟨rb, 0, none⟩), .int .i64 (x : Int)] w0 fun e w' => ∃ u, e = .returned (.tuple #[u, .nilIface]) ∧ Rn w0 w' u (rot (seq (x + 1)) (x + 1)) ∧ RG lo w rb fb n v seq w' ∧ Keep w0 w' := by
  have p := h.fs.part
  have hk := hid (kept_ok h.rb)
  have hl := hid (h.fs.list x hx)
  have h := hid h
  obtain ⟨A, B, hAB, hA⟩ := List.eq_append_cons_of_mem (p.self (x + 1) (by omega))
  have hrot : Hid (rot (seq (x + 1)) (x + 1) = (x + 1) :: B ++ A) := hid (by rw [hAB, rot_split hA]; rfl)
  have hlen := p.len (x + 1) (by omega)
  have hnz : ∀ z ∈ A ++ (x + 1) :: B, z ≠ 0 := fun z hz => (p.mem (x + 1) z (by omega) (by rw [hAB]; exact hz)).2
  rw [hAB] at hlen
  have p := hid p
  have hABh := hid hAB
  clear hAB
  go_enter Tryz.func48, Tryz.ntmps48
  go_wp2_with fail
  refine hk.out.mono ?_
  rintro e w1 ⟨rfl, rfl⟩
  go_wp2_with fail
  refine hl.out.mono ?_
  rintro e w2 ⟨u, rfl, hr, h2, k2⟩
  rw [hABh.out] at hr
  obtain ⟨M, hM⟩ : ∃ M, (A ++ (x + 1) :: B).length = M := ⟨_, rfl⟩
  obtain ⟨g, cap, rfl, hc1, hc2, hcell⟩ := hr.sl (by simp) M hM
  rw [hM] at hlen
  have g2 := hid (h.out.after k2 h2)
  have k2 := hid k2
  have hix := hid (index_ok g cap x A B w2 (fun j d hd => by rw [hcell j (d + 1) hd]; unfold itm; congr 2; omega) hnz hA M hM (by omega))
  have hM2 : M = A.length + (B.length + 1) := by rw [← hM]; simp
  obtain ⟨na, hna⟩ : ∃ k, A.length = k := ⟨_, rfl⟩
  rw [hna] at hix hM2
  have s1 : Sl w2 ⟨g, na, none⟩ ((x + 1) :: B) := fun j u hu => by
    rw [List.getElem?_map] at hu
    obtain ⟨d, hd, rfl⟩ := Option.map_eq_some_iff.1 hu
    rw [show (⟨g, na, none⟩ : Addr).add j = ⟨g, na + j, none⟩ from by unfold Addr.add; split <;> simp_all]
    exact hcell (na + j) d (by rw [List.getElem?_append_right (by omega), hna, Nat.add_sub_cancel_left]; exact hd)
  have s2 : Sl w2 ⟨g, 0, none⟩ A := fun j u hu => by
    rw [List.getElem?_map] at hu
    obtain ⟨d, hd, rfl⟩ := Option.map_eq_some_iff.1 hu
    rw [show (⟨g, 0, none⟩ : Addr).add j = ⟨g, j, none⟩ from by unfold Addr.add; split <;> simp_all]
    exact hcell j d (by rw [List.getElem?_append_left (List.getElem?_eq_some_iff.1 hd).1]; exact hd)
  have hc3 : cap ≤ 9223372036854775807 := by unfold maxLen at hc2; omega
  have hcat : Hid (∀ y, y.heap = (w2.alloc (.cells #[.slice (some ⟨g, na, none⟩) (M - na) (cap - na), .slice (some ⟨g, 0, none⟩) na cap] 47)).heap → y.tape = w2.tape → y.os = w2.os → y.output = w2.output → Calls Tryz.prog 77 #[.slice (some ⟨w2.heap.size, 0, none⟩) 2 2] y fun e w' => ∃ u, e = .returned u ∧ (w'.ownsRow (w2.heap.size + 1) 3 1 u (rot (seq (x + 1)) (x + 1)).length ((rot (seq (x + 1)) (x + 1)).map itm)) ∧ Below w2.heap.size w2 w') := hid (fun y hy ht ho hou => by
    have hb : Below w2.heap.size w2 y := ⟨ho, ht, hou, by rw [hy]; simp, fun k hk => by rw [hy]; exact Below.heap_alloc _ _ _ hk⟩
    refine (concat_ok w2.heap.size ⟨g, na, none⟩ ⟨g, 0, none⟩ (cap - na) cap ((x + 1) :: B) A y ?_ (s1.below hb) (s2.below hb) (by simp; omega) (by simp; omega)).mono ?_
    · rw [hy, heap_alloc_new]
      simp only [List.length_cons, hna]
      rw [show M - na = B.length + 1 by omega]
    · rintro e w' ⟨u, rfl, ho', hb'⟩
      have hsz : y.heap.size = w2.heap.size + 1 := by rw [hy]; simp
      rw [hsz] at ho'
      exact ⟨u, rfl, by rw [hrot.out]; exact ho', hb.trans (hb'.mono (by omega))⟩)
  have hcat := hid (hcat.out ((w2.alloc (.cells #[.slice (some ⟨g, na, none⟩) (M - na) (cap - na), .slice (some ⟨g, 0, none⟩) na cap] 47)).drew) rfl rfl rfl rfl)
  have i1 : (0 : Int) ≤ (na : Int) := by omega
  have i2 : (na : Int) ≤ (M : Int) := by omega
  have i3 : (na : Int) ≤ (cap : Int) := by omega
  have i4 : cap ≠ na := by omega
  clear hk hl h hr h2 hcell s1 s2 hM hnz hA hna hM2
  go_wp2_with fail
  refine hix.out.mono ?_
  rintro e w3 ⟨rfl, rfl⟩
  clear hix
  go_wp2_with fail
  go_region_held3 (fun w' => True) (first | exact True.intro | assumption | go_keep) ((go_at_call 77; refine hcat.out.mono ?_; rintro e w4 ⟨u4, rfl, ho4, b4⟩; have fin := hid (And.intro ho4 b4); clear ho4 b4))
  all_goals
    go_wp2_with fail
    go_ret2
    refine ⟨u4, rfl, ⟨w2.heap.size + 1, fun k cs t fr hk e1 e2 => ?_, fin.out.1⟩, g2.out.more fin.out.2, k2.out.trans (Keep.ofBelow fin.out.2)⟩
    have := (Array.getElem?_eq_some_iff.1 (k2.out k cs t fr hk e1 e2)).1
    omega

theorem RG.walk (h : RG lo w rb fb n v seq w0) (x : Nat) (hx : x < n) :
    Calls Tryz.prog 48 #[.pointer (some ⟨rb, 0, none⟩), .int .i64 (x : Int)] w0 fun e w' => ∃ u, e = .returned (.tuple #[u, .nilIface]) ∧ Rw w' u (rot (seq (x + 1)) (x + 1)) ∧ RG lo w rb fb n v seq w' ∧ Keep w0 w' := by
  refine (h.walkN x hx).mono ?_
  rintro e w' ⟨u, rfl, ⟨base, _, hr⟩, h1, k1⟩
  exact ⟨u, rfl, ⟨base, hr⟩, h1, k1⟩

set_option maxRecDepth 100000 in
set_option maxHeartbeats 1000000 in
theorem RG.walk_bad (h : RG lo w rb fb n v seq w0) (x : Int) (hx : ¬ (0 ≤ x ∧ x < (n : Int))) :
    Calls Tryz.prog 48 #[.pointer (some ⟨rb, 0, none⟩), .int .i64 x] w0 fun e w' => e = .returned (.tuple #[.slice none 0 0, (.iface 63 (.int .i64 12))]) ∧ RG lo w rb fb n v seq w' ∧ Keep w0 w' := by
  have hk := hid (kept_ok h.rb)
  have hs := hid (h.fs.list_bad x hx)
  have h := hid h
  clear hx
  go_enter Tryz.func48, Tryz.ntmps48
  go_wp2_with fail
  refine hk.out.mono ?_
  rintro e w1 ⟨rfl, rfl⟩
  go_wp2_with fail
  refine hs.out.mono ?_
  rintro e w2 ⟨rfl, h2, k2⟩
  have fin := hid (And.intro (h.out.after k2 h2) k2)
  clear hs h2 k2
  go_wp2_with fail
  go_ret2
  exact ⟨rfl, fin.out⟩
end

end Go.Proofs.YtdmkbcbgjdmgdaaGreatDoor

namespace Go.Proofs.YtdmkbcbgjdmgdaaGreatDoor
open Go.RowKit
set_option linter.unusedVariables false

theorem lit2 (w : World) (a b : Int) : Ns (w.alloc (.cells #[.int .i64 a, .int .i64 b] 3)) (.slice (some ⟨w.heap.size, 0, none⟩) 2 2) [a, b] := by
  refine ⟨_, 2, rfl, (fun e => by cases e), by simp, fun c ha j z hz => ?_⟩
  cases ha
  rw [show (⟨w.heap.size, 0, none⟩ : Addr).add j = ⟨w.heap.size, j, none⟩ from by unfold Addr.add; split <;> simp_all]
  unfold World.cell?
  rw [heap_alloc_new]
  have hj := (List.getElem?_eq_some_iff.1 hz).1
  match j, hj, hz with
  | 0, _, hz => cases hz; rfl
  | 1, _, hz => cases hz; rfl

theorem lit1 (w : World) (a : Int) : Ns (w.alloc (.cells #[.int .i64 a] 3)) (.slice (some ⟨w.heap.size, 0, none⟩) 1 1) [a] := by
  refine ⟨_, 1, rfl, (fun e => by cases e), by simp, fun c ha j z hz => ?_⟩
  cases ha
  rw [show (⟨w.heap.size, 0, none⟩ : Addr).add j = ⟨w.heap.size, j, none⟩ from by unfold Addr.add; split <;> simp_all]
  unfold World.cell?
  rw [heap_alloc_new]
  have hj := (List.getElem?_eq_some_iff.1 hz).1
  match j, hj, hz with
  | 0, _, hz => cases hz; rfl

end Go.Proofs.YtdmkbcbgjdmgdaaGreatDoor

namespace Go.Proofs.YtdmkbcbgjdmgdaaGreatDoor
open Go.RowKit
set_option linter.unusedVariables false

theorem mod_up2 (n M : Int) (h1 : 1 ≤ M) (h2 : M ≤ 1000000) : ∃ K : Nat, wrap64 (2 + wrap64 ((IntKind.u64.wrap n).tmod M)) = (K : Int) ∧ 2 ≤ K ∧ (K : Int) ≤ M + 1 := by
  have e : (IntKind.u64.wrap n).tmod M = n % 18446744073709551616 % M := by
    rw [IntKind.wrap_u64, Int.tmod_eq_emod_of_nonneg (by omega)]
  have g1 : 0 ≤ n % 18446744073709551616 % M := Int.emod_nonneg _ (by omega)
  have g2 : n % 18446744073709551616 % M < M := Int.emod_lt_of_pos _ (by omega)
  rw [e]
  generalize n % 18446744073709551616 % M = r at g1 g2
  refine ⟨(2 + r).toNat, ?_, by omega, by omega⟩
  have w1 : wrap64 r = r := IntWalk.wrap64_in r ⟨by omega, by omega⟩
  have w2 : wrap64 (2 + r) = 2 + r := IntWalk.wrap64_in _ ⟨by omega, by omega⟩
  rw [w1, w2]
  omega

theorem sl_of {w : World} {g : Nat} {l : List Nat} (h : ∀ (j d : Nat), l[j]? = some d → w.cell? ⟨g, j, none⟩ = some (itm d)) : Sl w ⟨g, 0, none⟩ l := fun j u hu => by
  rw [List.getElem?_map] at hu
  obtain ⟨d, hd, rfl⟩ := Option.map_eq_some_iff.1 hu
  rw [show (⟨g, 0, none⟩ : Addr).add j = ⟨g, j, none⟩ from by unfold Addr.add; split <;> simp_all]
  exact h j d hd

theorem rot_one (X : Nat) : rot (one (X + 1)) (X + 1) = [X + 1] := by
  rw [show one (X + 1) = [X + 1] from by simp [one]]
  exact rot_self rfl

/-- A row cut in two: up to a place, and from it on. -/
theorem cut_rows {w : World} {g c : Nat} {l : List Nat} {M : Nat} (h : Rw w (.slice (some ⟨g, 0, none⟩) M c) l) (hl : l ≠ []) (M' : Nat) (hM : l.length = M') (j : Nat) (hj : j ≤ 8388610) (hM8 : M' ≤ 8388610 := by omega) :
    Ns w (.slice (some ⟨g, 0, none⟩) (min j M') c) (items (l.take j)) ∧ Ns w (.slice (some ⟨g, j, none⟩) (M' - j) (c - j)) (items (l.drop j)) := by
  obtain ⟨g', c', e, _, _, hc⟩ := h.sl hl M' hM
  injection e with e1 e2 e3
  injection e1 with e1
  injection e1 with e1
  subst e1
  refine ⟨⟨_, c, by rw [items_length, List.length_take, hM], (fun e => by cases e), by rw [items_length, List.length_take]; omega, fun a ha i z hz => ?_⟩, ⟨_, c - j, by rw [items_length, List.length_drop, hM], (fun e => by cases e), by rw [items_length, List.length_drop]; omega, fun a ha i z hz => ?_⟩⟩
  · cases ha
    unfold items at hz
    rw [List.getElem?_map] at hz
    obtain ⟨d, hd, rfl⟩ := Option.map_eq_some_iff.1 hz
    rw [show (⟨g, 0, none⟩ : Addr).add i = ⟨g, i, none⟩ from by unfold Addr.add; split <;> simp_all]
    rw [List.getElem?_take] at hd
    split at hd
    · exact hc i d hd
    · cases hd
  · cases ha
    unfold items at hz
    rw [List.getElem?_map] at hz
    obtain ⟨d, hd, rfl⟩ := Option.map_eq_some_iff.1 hz
    rw [show (⟨g, j, none⟩ : Addr).add i = ⟨g, j + i, none⟩ from by unfold Addr.add; split <;> simp_all]
    rw [List.getElem?_drop] at hd
    exact hc (j + i) d hd

section
variable {n : Nat} {seq : Nat → List Nat}

theorem Rw.nsr {w : World} {u : Value} {x : Nat} (h : Part n seq) (hx : x ≠ 0) (hr : Rw w u (rot (seq x) x)) : Ns w u (items (rot (seq x) x)) := hr.ns (by rw [rot_len]; have := h.len x hx; omega)
/-- Two merged: from the one on, and from the other; the front. -/
theorem merge_tells (h : Part n seq) {x y : Nat} (hx : x ≠ 0) (hy0 : y ≠ 0) (hy : y ∉ seq x) : rot (mrgS seq x y x) x = rot (seq x) x ++ rot (seq y) y ∧ (mrgS seq x y y)[0]? = some x := by
  obtain ⟨P, hP⟩ := rot_head (h.self x hx)
  have m1 : mrgS seq x y x = rot (seq x) x ++ rot (seq y) y := by
    unfold mrgS
    rw [if_pos (Or.inl (h.self x hx))]
  have m2 : mrgS seq x y y = rot (seq x) x ++ rot (seq y) y := by
    unfold mrgS
    rw [if_pos (Or.inr (h.self y hy0))]
  refine ⟨?_, ?_⟩
  · rw [m1, hP]
    exact rot_self rfl
  · rw [m2, hP]
    rfl
end

end Go.Proofs.YtdmkbcbgjdmgdaaGreatDoor

namespace Go.Proofs.YtdmkbcbgjdmgdaaGreatDoor
open Go.RowKit
set_option linter.unusedVariables false

/-- All lists but two. -/
def wo (ls : List (List Nat)) (a b : Nat) : List (List Nat) := (ls.zipIdx.filter (fun p => p.2 != a && p.2 != b)).map Prod.fst

theorem wo_next (ls : List (List Nat)) (a b i : Nat) (l : List Nat) (h : ls[i]? = some l) : wo (ls.take (i + 1)) a b = wo (ls.take i) a b ++ (if i ≠ a ∧ i ≠ b then [l] else []) := by
  have hi := (List.getElem?_eq_some_iff.1 h).1
  unfold wo
  rw [List.take_add_one, h, List.zipIdx_append, List.filter_append, List.map_append]
  congr 1
  have hl : 0 + (ls.take i).length = i := by rw [List.length_take]; omega
  rw [hl]
  by_cases hc : i ≠ a ∧ i ≠ b
  · rw [if_pos hc]; simp [hc]
  · rw [if_neg hc]
    have : (i != a && i != b) = false := by
      rw [Bool.and_eq_false_iff]
      by_cases h1 : i = a
      · exact Or.inl (by simp [h1])
      · by_cases h2 : i = b
        · exact Or.inr (by simp [h2])
        · exact absurd ⟨h1, h2⟩ hc
    simp only [Option.toList_some, List.zipIdx_cons, List.zipIdx_nil, List.filter_cons, this, List.filter_nil]
    rfl

theorem wo_mem {ls : List (List Nat)} {a b : Nat} {l : List Nat} : l ∈ wo ls a b ↔ ∃ i, ls[i]? = some l ∧ i ≠ a ∧ i ≠ b := by
  unfold wo
  rw [List.mem_map]
  constructor
  · rintro ⟨⟨l', i⟩, hm, rfl⟩
    rw [List.mem_filter] at hm
    refine ⟨i, List.mem_zipIdx_iff_getElem?.1 hm.1, ?_⟩
    simpa using hm.2
  · rintro ⟨i, h1, h2, h3⟩
    refine ⟨(l, i), ?_, rfl⟩
    rw [List.mem_filter]
    exact ⟨List.mem_zipIdx_iff_getElem?.2 h1, by simp [h2, h3]⟩

theorem wo_nd {ls : List (List Nat)} {a b : Nat} (h : ls.Nodup) : (wo ls a b).Nodup := by
  unfold wo
  have hs : ((ls.zipIdx.filter (fun p => p.2 != a && p.2 != b)).map Prod.fst).Sublist (ls.zipIdx.map Prod.fst) := List.filter_sublist.map _
  rw [List.zipIdx_map_fst] at hs
  exact hs.nodup h

/-- The lists are the sequences, each once. -/
structure Tie (K : Nat) (ls : List (List Nat)) (seq : Nat → List Nat) : Prop where
  into : ∀ x, 1 ≤ x → x ≤ K → seq x ∈ ls
  out : ∀ l, l ∈ ls → ∃ x, 1 ≤ x ∧ x ≤ K ∧ l = seq x
  nd : ls.Nodup

section
variable {K : Nat} {ls : List (List Nat)} {seq seq' : Nat → List Nat}

theorem Tie.alone (t : Tie K ls seq) {i j : Nat} {l : List Nat} (hi : ls[i]? = some l) (hj : ls[j]? = some l) : i = j :=
  (List.getElem?_inj (List.getElem?_eq_some_iff.1 hi).1 t.nd).1 (hi.trans hj.symm)

theorem Tie.len (t : Tie K ls seq) : ls.length ≤ K := by
  have : ls.length ≤ ((List.range K).map (fun i => seq (i + 1))).length := t.nd.length_le_of_subset (fun l hl => by
    obtain ⟨x, h1, h2, rfl⟩ := t.out l hl
    rw [List.mem_map]
    exact ⟨x - 1, List.mem_range.2 (by omega), by rw [show x - 1 + 1 = x by omega]⟩)
  simpa using this

theorem Part.few (p : Part K seq) {x : Nat} (h1 : x ≠ 0) (h2 : x ≤ K) : (seq x).length ≤ K := by
  have hs : (seq x).length ≤ (List.range' 1 K).length := (p.nd x h1).length_le_of_subset (fun z hz => by
    have h3 := p.le x z h1 h2 hz
    have h4 := (p.mem x z h1 hz).2
    rw [List.mem_range'_1]; omega)
  simpa using hs

theorem Tie.replace (t : Tie K ls seq) (p : Part K seq) {x y i j : Nat} {nl : List (List Nat)} (hx0 : x ≠ 0) (hxK : x ≤ K) (hy0 : y ≠ 0) (hyK : y ≤ K) (hi : ls[i]? = some (seq x)) (hj : ls[j]? = some (seq y))
    (ho : ∀ z, z ∉ seq x → z ∉ seq y → seq' z = seq z) (hin : ∀ z, z ∈ seq x ∨ z ∈ seq y → seq' z ∈ nl) (hnl : ∀ l, l ∈ nl → ∃ z, (z ∈ seq x ∨ z ∈ seq y) ∧ z ∈ l ∧ l = seq' z) (hnd : nl.Nodup) : Tie K (wo ls i j ++ nl) seq' := by
  have hwo : ∀ l, l ∈ wo ls i j → ∃ z, z ≠ 0 ∧ z ≤ K ∧ l = seq z ∧ z ∉ seq x ∧ z ∉ seq y := fun l hl => by
    obtain ⟨k, hk, ki, kj⟩ := wo_mem.1 hl
    obtain ⟨z, h1, h2, rfl⟩ := t.out l (List.mem_of_getElem? hk)
    refine ⟨z, by omega, h2, rfl, fun hm => ki (t.alone hk ?_), fun hm => kj (t.alone hk ?_)⟩
    · rw [hi, (p.mem x z hx0 hm).1]
    · rw [hj, (p.mem y z hy0 hm).1]
  have hD : ∀ z, z ∈ seq x ∨ z ∈ seq y → z ≠ 0 ∧ z ≤ K := fun z hz => by
    rcases hz with hz | hz
    · exact ⟨(p.mem x z hx0 hz).2, p.le x z hx0 hxK hz⟩
    · exact ⟨(p.mem y z hy0 hz).2, p.le y z hy0 hyK hz⟩
  refine ⟨fun z h1 h2 => ?_, fun l hl => ?_, ?_⟩
  · rw [List.mem_append]
    by_cases hz : z ∈ seq x ∨ z ∈ seq y
    · exact Or.inr (hin z hz)
    · refine Or.inl (wo_mem.2 ?_)
      have hz1 : z ∉ seq x := fun c => hz (Or.inl c)
      have hz2 : z ∉ seq y := fun c => hz (Or.inr c)
      rw [ho z hz1 hz2]
      obtain ⟨k, hk⟩ := List.getElem?_of_mem (t.into z h1 h2)
      refine ⟨k, hk, fun e => ?_, fun e => ?_⟩
      · rw [e, hi] at hk
        injection hk with hk
        exact hz1 (by rw [hk]; exact p.self z (by omega))
      · rw [e, hj] at hk
        injection hk with hk
        exact hz2 (by rw [hk]; exact p.self z (by omega))
  · rcases List.mem_append.1 hl with hl | hl
    · obtain ⟨z, h1, h2, rfl, h3, h4⟩ := hwo l hl
      exact ⟨z, by omega, h2, (ho z h3 h4).symm⟩
    · obtain ⟨z, h1, _, rfl⟩ := hnl l hl
      have := hD z h1
      exact ⟨z, by omega, this.2, rfl⟩
  · rw [List.nodup_append]
    refine ⟨wo_nd t.nd, hnd, fun l h1 l' h2 e => ?_⟩
    subst e
    obtain ⟨z0, q1, q2, e0, q3, q4⟩ := hwo l h1
    obtain ⟨z, q5, q6, _⟩ := hnl l h2
    rw [e0] at q6
    have e1 := (p.mem z0 z q1 q6).1
    rcases q5 with q5 | q5
    · exact q3 (by rw [← (p.mem x z hx0 q5).1, e1]; exact p.self z0 q1)
    · exact q4 (by rw [← (p.mem y z hy0 q5).1, e1]; exact p.self z0 q1)

/-- Turned, split, one taken out, merged: the lists. -/
theorem Tie.turn (t : Tie K ls seq) (p : Part K seq) {x i : Nat} (hx : x ≠ 0) (hxK : x ≤ K) (hi : ls[i]? = some (seq x)) : Tie K (wo ls i i ++ [rot (seq x) x]) (turnS seq x) :=
  t.replace p hx hxK hx hxK hi hi (fun z h1 _ => turnS_out h1) (fun z hz => by rw [turnS_in (hz.elim id id)]; exact List.mem_singleton.2 rfl)
    (fun l hl => ⟨x, Or.inl (p.self x hx), by rw [List.mem_singleton.1 hl]; exact rot_mem.2 (p.self x hx), by rw [List.mem_singleton.1 hl, turnS_self p hx]⟩) (by simp)

theorem Tie.split (t : Tie K ls seq) (p : Part K seq) {x y i : Nat} {P Q : List Nat} (hx : x ≠ 0) (hxK : x ≤ K) (hi : ls[i]? = some (seq x)) (e : rot (seq x) x = x :: P ++ y :: Q) : Tie K (wo ls i i ++ [x :: P, y :: Q]) (splS seq x y) := by
  have hm : ∀ z, z ∈ seq x → z ∈ x :: P ∨ z ∈ y :: Q := fun z hz => by
    have := (rot_mem (x := x)).2 hz
    rw [e] at this
    exact List.mem_append.1 this
  have hn := rot_nd (x := x) (p.nd x hx)
  rw [e, List.nodup_append] at hn
  have hyP : y ∉ x :: P := fun c => hn.2.2 y c y List.mem_cons_self rfl
  have hy : y ∈ seq x := (rot_mem (x := x)).1 (by rw [e]; simp)
  refine t.replace p hx hxK hx hxK hi hi (fun z h1 _ => ?_) (fun z hz => ?_) (fun l hl => ?_) ?_
  · rw [splS_of e hyP]
    unfold cutS
    rw [if_neg (fun c => h1 ((rot_mem (x := x)).1 (by rw [e]; exact List.mem_append_left _ c))), if_neg (fun c => h1 ((rot_mem (x := x)).1 (by rw [e]; exact List.mem_append_right _ c)))]
  · rcases hm z (hz.elim id id) with c | c
    · rw [splS_first p hx e z c]; simp
    · rw [splS_second p hx e z c]; simp
  · rcases List.mem_cons.1 hl with rfl | hl
    · exact ⟨x, Or.inl (p.self x hx), List.mem_cons_self, (splS_first p hx e x List.mem_cons_self).symm⟩
    · rw [List.mem_singleton.1 hl]
      exact ⟨y, Or.inl hy, List.mem_cons_self, (splS_second p hx e y List.mem_cons_self).symm⟩
  · rw [List.nodup_cons]
    refine ⟨fun c => ?_, by simp⟩
    have := List.mem_singleton.1 c
    exact hyP (by rw [this]; exact List.mem_cons_self)

theorem Tie.merge (t : Tie K ls seq) (p : Part K seq) {x y i j : Nat} (hx : x ≠ 0) (hxK : x ≤ K) (hy : y ≠ 0) (hyK : y ≤ K) (hi : ls[i]? = some (seq x)) (hj : ls[j]? = some (seq y)) : Tie K (wo ls i j ++ [rot (seq x) x ++ rot (seq y) y]) (mrgS seq x y) := by
  refine t.replace p hx hxK hy hyK hi hj (fun z h1 h2 => ?_) (fun z hz => ?_) (fun l hl => ?_) (by simp)
  · unfold mrgS; rw [if_neg (fun c => c.elim h1 h2)]
  · unfold mrgS; rw [if_pos hz]; simp
  · rw [List.mem_singleton.1 hl]
    refine ⟨x, Or.inl (p.self x hx), List.mem_append_left _ (rot_mem.2 (p.self x hx)), ?_⟩
    unfold mrgS; rw [if_pos (Or.inl (p.self x hx))]

theorem tie_new (K : Nat) : Tie K ((List.range K).map (fun i => [i + 1])) one := by
  refine ⟨fun x h1 h2 => ?_, fun l hl => ?_, ?_⟩
  · rw [List.mem_map]
    exact ⟨x - 1, List.mem_range.2 (by omega), by rw [show x - 1 + 1 = x by omega]; rfl⟩
  · obtain ⟨i, hi, rfl⟩ := List.mem_map.1 hl
    exact ⟨i + 1, by omega, by have := List.mem_range.1 hi; omega, rfl⟩
  · unfold List.Nodup
    rw [List.pairwise_map]
    refine List.Pairwise.imp (fun {a b} h e => ?_) (List.nodup_range (n := K))
    injection e with e
    omega
end

end Go.Proofs.YtdmkbcbgjdmgdaaGreatDoor
