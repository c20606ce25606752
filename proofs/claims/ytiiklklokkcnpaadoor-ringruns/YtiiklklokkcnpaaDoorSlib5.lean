/- The library's Index, Grow and Concat, walked. -/
import Derived.Test.YtiiklklokkcnpaaDoorList4
import Derived.Lib.AppendZerosOnto
import Derived.Deep.RegionHeld3
namespace Go.Proofs.YtiiklklokkcnpaaDoor
open Go.RowKit
set_option linter.unusedVariables false

theorem below_grown {w0 w w' : World} {B base n size : Nat} {e : TypeId} {v : Value} {xs : List Value} (hb : Below B w0 w) (hlo : B ≤ w0.heap.size) (ho : w.ownsRow base e size v n xs) (hB : B ≤ base) (hg : w.grownBy w' v.ownBlock) : Below B w0 w' := by
  have ht : Turned (fun j => v.ownBlock = some j) w w' := ⟨hg.os, hg.tape, hg.output, hg.size, fun k hk ho => hg.block k hk (fun e => ho e.symm)⟩
  exact hb.trans (ht.below (fun j hj => Nat.le_trans hB (ho.lt j hj).1) (Nat.le_trans hlo hb.size))

set_option maxRecDepth 100000 in
set_option maxHeartbeats 1000000 in
theorem index_ok (g cap x : Nat) (A B : List Nat) (w : World) (hc : ∀ j d : Nat, (A ++ (x + 1) :: B)[j]? = some (d + 1) → w.cell? ⟨g, j, none⟩ = some (.int .i64 (d : Int))) (hnz : ∀ z ∈ A ++ (x + 1) :: B, z ≠ 0) (hA : x + 1 ∉ A) (M : Nat) (hM : (A ++ (x + 1) :: B).length = M) (hlen : M ≤ 8388620) :
    Calls Tryd.prog 39 #[.slice (some ⟨g, 0, none⟩) M cap, .int .i64 (x : Int)] w fun e w' => e = .returned (.int .i64 (A.length : Int)) ∧ w = w' := by
  have hc := hid hc
  have hnz := hid hnz
  have hA := hid hA
  have hAM : A.length < M := by rw [← hM]; simp
  have hM := hid hM
  go_enter Tryd.func39, Tryd.ntmps39
  go_wp2_with fail
  go_loopw [5, 8] (fun _ u wr => ∃ k : Nat, k ≤ A.length ∧ u = .int .i64 (k : Int) ∧ w = wr) (fun _ u _ => A.length - (intOf u).toNat)
  case atStart => exact ⟨0, by omega, by go_num, rfl⟩
  case round =>
    obtain ⟨k, hk, rfl, rfl⟩ := hrel
    have hkM : k < M := by omega
    obtain ⟨z, hz⟩ : ∃ z, (A ++ (x + 1) :: B)[k]? = some z := ⟨_, List.getElem?_eq_getElem (by rw [hM.out]; exact hkM)⟩
    have hzn := hnz.out z (List.mem_of_getElem? hz)
    obtain ⟨y, rfl⟩ : ∃ y, z = y + 1 := ⟨z - 1, by omega⟩
    have c1 := hc.out k y hz
    have k1 : (0 : Int) ≤ (k : Int) := by omega
    have k2 : (k : Int) < (M : Int) := by omega
    rcases Nat.lt_or_ge k A.length with hlt | hge
    · have hyx : y ≠ x := fun e => by
        subst e
        rw [List.getElem?_append_left hlt] at hz
        exact hA.out (List.mem_of_getElem? hz)
      have t1 : ((x : Int) == (y : Int)) = false := by rw [beq_eq_false_iff_ne]; omega
      clear hz
      go_wp2_with fail
      go_roundw
      case rel => exact ⟨k + 1, by omega, by go_num, by trivial⟩
      case measure => simp [intOf]; omega
    · have hkA : k = A.length := by omega
      have hyx : y = x := by
        rw [List.getElem?_append_right hge, hkA] at hz
        simp at hz
        exact hz.symm
      subst hyx
      clear hz
      subst hkA
      go_wp2_with fail
      go_ret
      exact ⟨rfl, rfl⟩

theorem wpList_append_run {P : Program} {ops : Array Oper} {rest : List Oper} {o : Oper} {a : Act} {w w' : World} {v' : Value} {Q : Exit → Act → World → Prop} (hgd : o.guard = none) (s x : Operand) (t t' : TypeId) (ho : o.op = .call { callee := .builtin .append, args := #[s, x], argTypes := #[t, t'] })
    (u y : Value) (hu : a.eval s = u) (hy : a.eval x = y) (hr : (Builtin.append_ #[t, t'] o.type #[u, y]).run P w = .ok v' w') (h : wpList P ops Q rest (a.put o.dst v') w') : wpList P ops Q (o :: rest) a w :=
  wpList_plain hgd fun _ hK => by
    unfold Oper.wp execOp
    simp only [ho, resolve, invoke, builtin, Sem.run_bind, Sem.run_pure, Result.andThen_ok, List.map_toArray, List.map_cons, List.map_nil, hu, hy, hr]
    exact hK _ _ h

set_option maxRecDepth 100000 in
set_option maxHeartbeats 2000000 in
theorem grow_ok (m : Nat) (w : World) (h1 : 1 ≤ m) (h2 : m ≤ 16777240) :
    Calls Tryd.prog 58 #[.slice none 0 0, .int .i64 (m : Int)] w fun e w' => ∃ u, e = .returned u ∧ w'.ownsRow w.heap.size 3 1 u 0 [] ∧ Below w.heap.size w w' := by
  obtain ⟨i0, hif, hz0, hz1, hz2⟩ := info_parts infoInt
  have hrz : ∀ ty, (Builtin.append_ #[47, 3] ty #[.slice none 0 0, .int .i64 (m : Int)]).run Tryd.prog w = .ok (.slice (some ⟨w.heap.size, 0, none⟩) m (grownCap w m 0 3)) (w.drew.alloc (.cells (([] : List Value).toArray ++ Builtin.zeroCells (Value.int .i64 0).cells m ++ Builtin.zeroCells (Value.int .i64 0).cells (grownCap w m 0 3 - m)) 3)) := fun ty => by
    have h := Lib.run_append_grow_zeros w 47 3 ty 3 i0 (.int .i64 0) .i64 .i64 Tryd.underlying47 Tryd.underlying3 hif hz0 none 0 0 [] (run_firstCells_none w.drew i0.size 0 0 0) m (by omega) (by omega) (by omega) (by omega) (by rw [hz2]; omega) (by rw [hz2]; exact growslice_fits (by omega) (by omega))
    simpa using h
  have hG := grownCap_ge w m 0 3
  have hG2 : grownCap w m 0 3 ≤ maxLen := grownCap_le_maxLen w m 0 3 (by unfold maxLen; omega)
  obtain ⟨G, hGe⟩ : ∃ G, grownCap w m 0 3 = G := ⟨_, rfl⟩
  rw [hGe] at hrz hG hG2
  have hG3 : G ≤ 9223372036854775807 := by unfold maxLen at hG2; omega
  obtain ⟨cur, hcur⟩ : ∃ cur, (([] : List Value).toArray ++ Builtin.zeroCells (Value.int .i64 0).cells m ++ Builtin.zeroCells (Value.int .i64 0).cells (G - m)) = cur := ⟨_, rfl⟩
  rw [hcur] at hrz
  have hcs : cur.size = G * 1 := by rw [← hcur]; simp [Builtin.zeroCells, Value.cells]; omega
  have hfin : Hid ((w.drew.alloc (.cells cur 3)).ownsRow w.heap.size 3 1 (.slice (some ⟨w.heap.size, 0, none⟩) 0 G) 0 []) := hid (World.ownsRow_made w.drew cur G (by simp) hG2 hcs)
  have hbel : Hid (Below w.heap.size w (w.drew.alloc (.cells cur 3))) := hid ((Below.refl _ _).drew.alloc (by simp) _)
  obtain ⟨W1, hW1⟩ : ∃ W1, w.drew.alloc (.cells cur 3) = W1 := ⟨_, rfl⟩
  rw [hW1] at hrz hfin hbel
  replace hrz := hid hrz
  clear hcur hcs hGe hif hz0 hz1 hz2 hG2 hW1
  have t1 : decide ((m : Int) < 0) = false := decide_eq_false (by omega)
  have t2 : decide ((0 : Int) < (m : Int)) = true := decide_eq_true (by omega)
  go_enter Tryd.func58, Tryd.ntmps58
  go_wp2_with (at_builtin; refine wpList_append_run rfl (.tmp 20) (.tmp 21) 47 3 rfl _ _ rfl rfl (hrz.out _) ?_)
  go_ret
  exact ⟨_, rfl, hfin.out, hbel.out⟩

/-- From this place on the items of these nodes lie. -/
def Sl (w : World) (ad : Addr) (l : List Nat) : Prop := ∀ j u, (l.map itm)[j]? = some u → w.cell? (ad.add j) = some u

theorem Sl.below {w w' : World} {ad : Addr} {l : List Nat} (h : Sl w ad l) (hb : Below w.heap.size w w') : Sl w' ad l := fun j u hu => by
  have hc := h j u hu
  rw [hb.cell (World.block_lt_of_cell? w _ hc)]
  exact hc

end Go.Proofs.YtiiklklokkcnpaaDoor
