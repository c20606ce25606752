/- The ties' ends in memory; zeros appended to a row of one's own. A Web's own memory: its block, the ties' ends; what stays where the one or the other part turns. web's small functions, walked: 'look', 'itemNode', 'tieNode', 'tieOf', 'loose', 'between'. 'between', 'Tied' of a Web, walked. 'keep' of a Web, walked: a tie's ends noted. -/
import Derived.Test.YtdmkbcbgjdmgdaaGreatDoorBpure
import Derived.Test.YtdmkbcbgjdmgdaaGreatDoorBringb
import Derived.Test.YtdmkbcbgjdmgdaaGreatDoorBctc
import Derived.Lib.AppendZerosOnto
import Derived.Handy
import Derived.Deep.QuietTactic
import Derived.BigQuiet
namespace Go.Proofs.YtdmkbcbgjdmgdaaGreatDoor
open Go.RowKit
set_option linter.unusedVariables false

theorem infoEnds : (Tryz.prog.info? 84).map (fun i => (i.zero, i.size, i.bytes)) = some (some (.agg #[.int .i64 0, .int .i64 0]), 2, 16) := by kernel_rfl

/-- A tie's ends as they are kept. -/
def ec (o : Option (Nat × Nat)) : List Value := match o with
  | some (a, b) => [.int .i64 (a : Int), .int .i64 (b : Int)]
  | none => [.int .i64 0, .int .i64 0]

def ecs (tt : Nat → Option (Nat × Nat)) : Nat → List Value
  | 0 => []
  | T + 1 => ecs tt T ++ ec (tt T)

theorem ec_length (o : Option (Nat × Nat)) : (ec o).length = 2 := by
  cases o with
  | none => rfl
  | some p => cases p; rfl

theorem ecs_length (tt : Nat → Option (Nat × Nat)) : ∀ T, (ecs tt T).length = T * 2
  | 0 => rfl
  | T + 1 => by simp only [ecs, List.length_append, ecs_length tt T, ec_length]; omega

theorem ecs_congr {tt tt' : Nat → Option (Nat × Nat)} : ∀ {T : Nat}, (∀ e, e < T → tt e = tt' e) → ecs tt T = ecs tt' T
  | 0, _ => rfl
  | T + 1, h => by simp only [ecs]; rw [ecs_congr (fun e he => h e (by omega)), h T (by omega)]

theorem ecs_get (tt : Nat → Option (Nat × Nat)) : ∀ (T e k : Nat), e < T → k < 2 → (ecs tt T)[e * 2 + k]? = (ec (tt e))[k]?
  | 0, e, k, he, _ => by omega
  | T + 1, e, k, he, hk => by
    unfold ecs
    by_cases h : e = T
    · subst h
      rw [List.getElem?_append_right (by rw [ecs_length]; omega), ecs_length]
      congr 1; omega
    · rw [List.getElem?_append_left (by rw [ecs_length]; omega)]
      exact ecs_get tt T e k (by omega) hk

theorem ecs_set {tt : Nat → Option (Nat × Nat)} {e : Nat} {o : Option (Nat × Nat)} {u v : Value} (ho : ec o = [u, v]) : ∀ (T : Nat), e < T → ((ecs tt T).set (e * 2) u).set (e * 2 + 1) v = ecs (updT tt e o) T
  | 0, he => by omega
  | T + 1, he => by
    unfold ecs
    by_cases h : e = T
    · subst h
      rw [List.set_append_right _ _ (by rw [ecs_length]; omega), List.set_append_right _ _ (by rw [ecs_length]; omega), ecs_length, updT_self, ho, ecs_congr (tt := updT tt e o) (tt' := tt) (fun j hj => updT_ne _ (by omega))]
      congr 1
      have := ec_length (tt e)
      match hx : ec (tt e) with
      | [] => rw [hx] at this; cases this
      | [_] => rw [hx] at this; cases this
      | [a, b] => rw [show e * 2 - e * 2 = 0 by omega, show e * 2 + 1 - e * 2 = 1 by omega]; rfl
      | _ :: _ :: _ :: _ => rw [hx] at this; simp at this
    · rw [List.set_append_left _ _ (by rw [ecs_length]; omega), List.set_append_left _ _ (by rw [List.length_set, ecs_length]; omega), ecs_set ho T (by omega), updT_ne _ (by omega)]

theorem ecs_zeros {tt : Nat → Option (Nat × Nat)} {T : Nat} : ∀ (k : Nat), (∀ e, T ≤ e → tt e = none) → ecs tt T ++ List.replicate (k * 2) (.int .i64 0) = ecs tt (T + k)
  | 0, _ => by simp
  | k + 1, h => by
    rw [show (k + 1) * 2 = k * 2 + 2 by omega, ← List.replicate_append_replicate, ← List.append_assoc, ecs_zeros k h]
    show _ = ecs tt (T + k) ++ ec (tt (T + k))
    rw [h (T + k) (by omega)]
    rfl

theorem zero_ends (k : Nat) : (Builtin.zeroCells (Value.cells (.agg #[.int .i64 0, .int .i64 0])) k).toList = List.replicate (k * 2) (.int .i64 0) := by
  apply List.ext_getElem?
  intro j
  have hs : (Value.cells (.agg #[.int .i64 0, .int .i64 0])).size = 2 := rfl
  simp only [Builtin.zeroCells, hs, Array.toList_map, Array.toList_range, List.getElem?_map, List.getElem?_replicate]
  by_cases hj : j < k * 2
  · rw [List.getElem?_range hj, if_pos hj]
    simp only [Option.map_some]
    rcases Nat.mod_two_eq_zero_or_one j with h | h <;> rw [h] <;> rfl
  · rw [if_neg hj, List.getElem?_eq_none (by simp; omega)]
    rfl

/-- append(s, make([]ends, k)...), s a row of one's own. -/
theorem run_append_ends (w : World) (base : Nat) (ty : TypeId) (v : Value) (n : Nat) (xs : List Value) (hown : w.ownsRow base 84 2 v n xs) (k : Nat) (h0 : 0 < k) (hk : n + k ≤ 4194304) (hbase : base ≤ w.heap.size) :
    ∃ v' w', (Builtin.append_ #[71, 3] ty #[v, .int .i64 (k : Int)]).run Tryz.prog w = .ok v' w' ∧ w'.ownsRow base 84 2 v' (n + k) (xs ++ List.replicate (k * 2) (.int .i64 0)) ∧ w.grownBy w' v.ownBlock ∧ (v'.ownBlock = v.ownBlock ∨ v'.ownBlock = some w.heap.size) := by
  obtain ⟨i, hi, hz, hs, hy⟩ := info_parts infoEnds
  have ht : Tryz.prog.underlying 71 = some (.slice 84) := Tryz.underlying71
  have htn : Tryz.prog.underlying 3 = some (.int .i64) := Tryz.underlying3
  have hlen : (xs ++ List.replicate (k * 2) (Value.int .i64 0)).length = (n + k) * 2 := by rw [List.length_append, hown.1, List.length_replicate]; omega
  have hz2 : (Value.cells (.agg #[.int .i64 0, .int .i64 0])).size = 2 := rfl
  have grown : ∀ (old : Nat), old < n + k → ∀ (row : Option Nat),
      (w.drew.alloc (.cells (xs.toArray ++ Builtin.zeroCells (Value.cells (.agg #[.int .i64 0, .int .i64 0])) k ++ Builtin.zeroCells (Value.cells (.agg #[.int .i64 0, .int .i64 0])) (grownCap w (n + k) old 84 - (n + k))) 84)).ownsRow base 84 2
        (.slice (some ⟨w.heap.size, 0, none⟩) (n + k) (grownCap w (n + k) old 84)) (n + k) (xs ++ List.replicate (k * 2) (.int .i64 0)) ∧
      w.grownBy (w.drew.alloc (.cells (xs.toArray ++ Builtin.zeroCells (Value.cells (.agg #[.int .i64 0, .int .i64 0])) k ++ Builtin.zeroCells (Value.cells (.agg #[.int .i64 0, .int .i64 0])) (grownCap w (n + k) old 84 - (n + k))) 84)) row := by
    intro old ho row
    have hge := grownCap_ge w (n + k) old 84
    have hcm : grownCap w (n + k) old 84 ≤ maxLen := grownCap_le_maxLen w (n + k) old 84 (by unfold maxLen; omega)
    refine ⟨⟨hlen, .inr ⟨w.heap.size, _, _, rfl, hbase, heap_alloc_new w.drew _, hge, hcm, ?_, ?_⟩⟩, ⟨rfl, rfl, rfl, by simp, fun j hj _ => Below.heap_alloc w.drew _ j hj⟩⟩
    · rw [Array.size_append, Array.size_append, List.size_toArray, size_zeroCells, size_zeroCells, hz2, hown.1]
      generalize grownCap w (n + k) old 84 = gc at hge
      omega
    · simp only [Array.toList_append, zero_ends]
      rw [← hlen]
      exact List.take_left
  have hk0 : k ≠ 0 := by omega
  have hw : IntKind.i64.wrap (k : Int) = k := by rw [IntKind.wrap_i64]; omega
  have hneg : ¬ ((k : Int) < 0) := by omega
  rcases hown.2 with ⟨rfl, rfl⟩ | ⟨g, cap, cur, rfl, hbg, hg, hnc, hcm, hcs, htake⟩
  · have hx : xs = [] := List.eq_nil_of_length_eq_zero (by simpa using hown.1)
    subst hx
    have hr := Lib.run_append_nil_zeros (P := Tryz.prog) w 71 3 ty 84 i _ .i64 .i64 ht htn hi hz k h0 (by omega) (by omega) (by rw [hy]; omega)
    have hgr := grown 0 (by omega) (Value.ownBlock (.slice none 0 0))
    simp only [Nat.zero_add, List.nil_append, Array.empty_append] at hgr ⊢
    exact ⟨_, _, hr, hgr.1, hgr.2, .inr rfl⟩
  · by_cases hroom : n + k ≤ cap
    · have hfit : n * 2 + (List.replicate (k * 2) (Value.int .i64 0)).length ≤ cur.size := by rw [hcs, List.length_replicate]; omega
      have hst := run_storeCells_at Tryz.prog g (n * 2) 84 (List.replicate (k * 2) (Value.int .i64 0)) 0 cur w hg (by simpa using hfit) (fun u hu => by rw [List.eq_of_mem_replicate hu]; rfl)
      simp only [Nat.add_zero] at hst
      have h48i : ¬ (281474976710656 < (k : Int) * 16) := by omega
      have hns : ¬ (k * 2 = 0) := by omega
      have hzl := zero_ends k
      have hr : (Builtin.append_ #[71, 3] ty #[.slice (some ⟨g, 0, none⟩) n cap, .int .i64 (k : Int)]).run Tryz.prog w = .ok (.slice (some ⟨g, 0, none⟩) (n + k) cap) (w.setRow g (cur.toList.take (n * 2) ++ List.replicate (k * 2) (Value.int .i64 0) ++ cur.toList.drop (n * 2 + (List.replicate (k * 2) (Value.int .i64 0)).length)).toArray) := by
        clear grown
        simp [Builtin.append_, run_underlying ht, run_underlying htn, sizeOf, typeInfo, zeroValue, hi, hz, hs, hy, asInt, asIntOf, hw, hroom, hneg, h48i, Addr.add_lit, hzl]
        simp at hst
        rw [hst]
        simp
        intro hq
        exact absurd hq hns
      refine ⟨_, _, hr, ⟨hlen, .inr ⟨g, cap, _, rfl, hbg, setRow_heap w g cur _ 84 _ hg, hroom, hcm, ?_, ?_⟩⟩, ⟨rfl, rfl, rfl, by simp, fun j _ hj => setRow_other w g j _ (fun e => hj (by simp [Value.ownBlock, e]))⟩, .inl rfl⟩
      · simp only [List.size_toArray, List.length_append, List.length_take, List.length_drop, Array.length_toList]
        omega
      · rw [htake, ← hlen]
        exact List.take_left
    · have hold : (Builtin.firstCells i.size n (.slice (some ⟨g, 0, none⟩) n cap)).run Tryz.prog w.drew = .ok xs.toArray w.drew := run_firstCells_some w.drew i.size n ⟨g, 0, none⟩ n cap xs (by rw [hs]; exact hown.1) (fun j u hu => hown.cells (g := g) rfl j u hu)
      have hr := Lib.run_append_grow_zeros (P := Tryz.prog) w 71 3 ty 84 i _ .i64 .i64 ht htn hi hz (some ⟨g, 0, none⟩) n cap xs hold k h0 (by omega) (by omega) (by omega) (by rw [hy]; omega) (growslice_fits (by omega) (by rw [hy]; omega))
      have hgr := grown cap (by omega) (Value.ownBlock (.slice (some ⟨g, 0, none⟩) n cap))
      exact ⟨_, _, hr, hgr.1, hgr.2, .inr rfl⟩
end Go.Proofs.YtdmkbcbgjdmgdaaGreatDoor

namespace Go.Proofs.YtdmkbcbgjdmgdaaGreatDoor
open Go.RowKit
set_option linter.unusedVariables false

/-- What is no part of a Web is as it was. -/
def KeepW (w w' : World) : Prop := ∀ (k : Nat) (cs : Array Value) (t : TypeId) (fr : Nat × Nat), w.heap[k]? = some (.cells cs t fr) → t ≠ 140 → t ≠ 144 → t ≠ 101 → t ≠ 105 → t ≠ 73 → t ≠ 84 → w'.heap[k]? = some (.cells cs t fr)

theorem KeepW.refl (w : World) : KeepW w w := fun _ _ _ _ h _ _ _ _ _ _ => h
theorem KeepW.trans {a b c : World} (h : KeepW a b) (k : KeepW b c) : KeepW a c := fun i cs t fr hi h1 h2 h3 h4 h5 h6 => k i cs t fr (h i cs t fr hi h1 h2 h3 h4 h5 h6) h1 h2 h3 h4 h5 h6
theorem KeepW.ofKeep {a b : World} (h : Keep a b) : KeepW a b := fun i cs t fr hi h1 h2 _ _ _ _ => h i cs t fr hi h1 h2
theorem KeepW.ofCt {a b : World} (h : Ct.Keep a b) : KeepW a b := fun i cs t fr hi _ _ h1 h2 _ _ => h i cs t fr hi h1 h2
theorem KeepW.ofBelow {a b : World} (h : Below a.heap.size a b) : KeepW a b := .ofKeep (Keep.ofBelow h)

/-- A Web's block, and its row of ends. -/
structure Wm (lo : Nat) (wb n m rb cb : Nat) (tt : Nat → Option (Nat × Nat)) (wr : World) : Prop where
  lw : lo ≤ wb
  st : ∃ tv T, wr.heap[wb]? = some (.cells #[.int .i64 (n : Int), .int .i64 (m : Int), .pointer (some ⟨rb, 0, none⟩), .pointer (some ⟨cb, 0, none⟩), tv] 73 (0, 0)) ∧ wr.ownsRow lo 84 2 tv T (ecs tt T) ∧ T ≤ m ∧ ∀ e, T ≤ e → tt e = none

theorem row_of {w w' : World} {base n : Nat} {v : Value} {xs : List Value} (ho : w.ownsRow base 84 2 v n xs) (h : ∀ (k : Nat) (cs : Array Value), w.heap[k]? = some (.cells cs 84 (0, 0)) → w'.heap[k]? = some (.cells cs 84 (0, 0))) : w'.ownsRow base 84 2 v n xs := by
  refine ⟨ho.1, ?_⟩
  rcases ho.2 with hn | ⟨g, cap, cur, rfl, hb, hgg, rest⟩
  · exact .inl hn
  · exact .inr ⟨g, cap, cur, rfl, hb, h g _ hgg, rest⟩

section
variable {lo wb n m rb cb : Nat} {tt : Nat → Option (Nat × Nat)} {w w' : World}

theorem Wm.keep (h : Wm lo wb n m rb cb tt w) (k : Keep w w') : Wm lo wb n m rb cb tt w' := by
  obtain ⟨tv, T, h1, h2, h3⟩ := h.st
  exact ⟨h.lw, tv, T, k _ _ _ _ h1 (by decide) (by decide), row_of h2 (fun b cs hb => k _ _ _ _ hb (by decide) (by decide)), h3⟩

theorem Wm.ct (h : Wm lo wb n m rb cb tt w) (k : Ct.Keep w w') : Wm lo wb n m rb cb tt w' := by
  obtain ⟨tv, T, h1, h2, h3⟩ := h.st
  exact ⟨h.lw, tv, T, k _ _ _ _ h1 (by decide) (by decide), row_of h2 (fun b cs hb => k _ _ _ _ hb (by decide) (by decide)), h3⟩

theorem Wm.more (h : Wm lo wb n m rb cb tt w) (hb : Below w.heap.size w w') : Wm lo wb n m rb cb tt w' := h.keep (Keep.ofBelow hb)

/-- The block's cells. -/
theorem Wm.cells (h : Wm lo wb n m rb cb tt w) : w.cell? ⟨wb, 0, none⟩ = some (.int .i64 (n : Int)) ∧ w.cell? ⟨wb, 1, none⟩ = some (.int .i64 (m : Int)) ∧ w.cell? ⟨wb, 2, none⟩ = some (.pointer (some ⟨rb, 0, none⟩)) ∧ w.cell? ⟨wb, 3, none⟩ = some (.pointer (some ⟨cb, 0, none⟩)) := by
  obtain ⟨tv, T, h1, _⟩ := h.st
  refine ⟨?_, ?_, ?_, ?_⟩ <;> (unfold World.cell?; rw [h1]; simp)
end

/-- The trees stay where the rings turn. -/
theorem ct_of {lo cb N : Nat} {w w0 w' : World} {v : Nat → Int} {adj : Nat → Nat → Prop} (h : Ct.FS lo w cb N v adj w0) (k : Keep w0 w') (hb : Below lo w w') : Ct.FS lo w cb N v adj w' := by
  obtain ⟨nb, M, T, sub, seq, pp, par, f1, f2, f3, f4, f5⟩ := h.st
  exact ⟨⟨nb, M, T, sub, seq, pp, par, ⟨k _ _ _ _ f1.self (by decide) (by decide), k _ _ _ _ f1.nodes (by decide) (by decide), f1.big⟩, f2, f3, f4, f5⟩, h.flo, hb, h.n1, h.n2, h.lw⟩

/-- The rings stay where the trees turn. -/
theorem rg_of {lo rb fb n : Nat} {w w0 w' : World} {v : Nat → Int} {seq : Nat → List Nat} (h : RG lo w rb fb n v seq w0) (k : Ct.Keep w0 w') (hb : Below lo w w') : RG lo w rb fb n v seq w' := by
  obtain ⟨nb, M, T, sub, f1, f2, f3, f4⟩ := h.fs.st
  exact ⟨⟨⟨nb, M, T, sub, ⟨k _ _ _ _ f1.self (by decide) (by decide), k _ _ _ _ f1.nodes (by decide) (by decide), f1.big⟩, f2, f3, f4⟩, h.fs.flo, hb, h.fs.n1, h.fs.n2, h.fs.lw⟩, k _ _ _ _ h.rb (by decide) (by decide)⟩

/-- What is neither a Web's block nor ends is as it was. -/
def KeepO (w w' : World) : Prop := ∀ (k : Nat) (cs : Array Value) (t : TypeId) (fr : Nat × Nat), w.heap[k]? = some (.cells cs t fr) → t ≠ 73 → t ≠ 84 → w'.heap[k]? = some (.cells cs t fr)

theorem KeepO.refl (w : World) : KeepO w w := fun _ _ _ _ h _ _ => h
theorem KeepO.trans {a b c : World} (h : KeepO a b) (k : KeepO b c) : KeepO a c := fun i cs t fr hi h1 h2 => k i cs t fr (h i cs t fr hi h1 h2) h1 h2
theorem KeepO.ofBelow {a b : World} (h : Below a.heap.size a b) : KeepO a b := fun k cs t fr hk _ _ => (h.block k (Array.getElem?_eq_some_iff.1 hk).1).trans hk
theorem KeepW.ofO {a b : World} (h : KeepO a b) : KeepW a b := fun i cs t fr hi _ _ _ _ h1 h2 => h i cs t fr hi h1 h2

theorem ct_ofO {lo cb N : Nat} {w w0 w' : World} {v : Nat → Int} {adj : Nat → Nat → Prop} (h : Ct.FS lo w cb N v adj w0) (k : KeepO w0 w') (hb : Below lo w0 w') : Ct.FS lo w cb N v adj w' := by
  obtain ⟨nb, M, T, sub, seq, pp, par, f1, f2, f3, f4, f5⟩ := h.st
  exact ⟨⟨nb, M, T, sub, seq, pp, par, ⟨k _ _ _ _ f1.self (by decide) (by decide), k _ _ _ _ f1.nodes (by decide) (by decide), f1.big⟩, f2, f3, f4, f5⟩, h.flo, h.below.trans hb, h.n1, h.n2, h.lw⟩

theorem rg_ofO {lo rb fb n : Nat} {w w0 w' : World} {v : Nat → Int} {seq : Nat → List Nat} (h : RG lo w rb fb n v seq w0) (k : KeepO w0 w') (hb : Below lo w0 w') : RG lo w rb fb n v seq w' := by
  obtain ⟨nb, M, T, sub, f1, f2, f3, f4⟩ := h.fs.st
  exact ⟨⟨⟨nb, M, T, sub, ⟨k _ _ _ _ f1.self (by decide) (by decide), k _ _ _ _ f1.nodes (by decide) (by decide), f1.big⟩, f2, f3, f4⟩, h.fs.flo, h.fs.below.trans hb, h.fs.n1, h.fs.n2, h.fs.lw⟩, k _ _ _ _ h.rb (by decide) (by decide)⟩
end Go.Proofs.YtdmkbcbgjdmgdaaGreatDoor

namespace Go.Proofs.YtdmkbcbgjdmgdaaGreatDoor
open Go.RowKit
set_option linter.unusedVariables false

set_option maxRecDepth 100000 in
set_option maxHeartbeats 1000000 in
theorem wlook_nil (s : Value) (w : World) : Calls Tryz.prog 43 #[.pointer none, s] w fun e w' => e = .returned (.iface 63 (.int .i64 1)) ∧ w = w' := by
  go_enter Tryz.func43, Tryz.ntmps43
  go_wp2_with fail
  go_ret
  exact ⟨rfl, rfl⟩

set_option maxRecDepth 100000 in
set_option maxHeartbeats 1000000 in
theorem wlook_bad (wb b n : Nat) (xs : List Int) (w : World) (hn : w.cell? ⟨wb, 0, none⟩ = some (.int .i64 (n : Int))) (hb : Nums w b xs) (hl : xs.length ≤ 2) (hbad : ¬ ∀ z ∈ xs, 0 ≤ z ∧ z < (n : Int)) :
    Calls Tryz.prog 43 #[.pointer (some ⟨wb, 0, none⟩), .slice (some ⟨b, 0, none⟩) xs.length xs.length] w fun e w' => e = .returned (.iface 63 (.int .i64 12)) ∧ w = w' := by
  have hbh := hid hb
  have hbad := hid hbad
  clear hb
  go_enter Tryz.func43, Tryz.ntmps43
  go_wp2_with fail
  go_loop [6, 12] (fun _ u => ∃ j : Nat, j ≤ xs.length ∧ u = .int .i64 (j : Int) ∧ Hid (∀ k z, k < j → xs[k]? = some z → 0 ≤ z ∧ z < (n : Int))) (fun _ u => xs.length - (intOf u).toNat)
  case atStart => exact ⟨0, by omega, by go_num, fun k z hk => by omega⟩
  case round =>
    obtain ⟨j, hj, rfl, hok⟩ := hrel
    rcases Nat.lt_or_ge j xs.length with hlt | hge
    · obtain ⟨z, hz⟩ : ∃ z, xs[j]? = some z := ⟨_, List.getElem?_eq_getElem hlt⟩
      have hc := hbh.out.cell hz
      have hzh := hid hz
      clear hz
      by_cases h0 : z < 0
      · have t1 : decide (z < 0) = true := decide_eq_true h0
        go_wp2_with fail
        go_ret
        exact ⟨rfl, rfl⟩
      · have t1 : decide (z < 0) = false := decide_eq_false h0
        by_cases h1 : (n : Int) ≤ z
        · have t2 : decide ((n : Int) ≤ z) = true := decide_eq_true h1
          go_wp2_with fail
          go_ret
          exact ⟨rfl, rfl⟩
        · have t2 : decide ((n : Int) ≤ z) = false := decide_eq_false h1
          go_wp2_with fail
          go_round
          case rel =>
            refine ⟨j + 1, by omega, by go_num, fun k z' hk hz' => ?_⟩
            rcases Nat.lt_or_ge k j with h2 | h2
            · exact hok.out k z' h2 hz'
            · obtain rfl : k = j := by omega
              rw [hzh.out] at hz'
              cases hz'
              omega
          case measure => simp [intOf]; omega
    · refine absurd (fun z hz => ?_) hbad.out
      obtain ⟨k, hk⟩ := List.mem_iff_getElem?.1 hz
      exact hok.out k z (by have := (List.getElem?_eq_some_iff.1 hk).1; omega) hk

set_option maxRecDepth 100000 in
set_option maxHeartbeats 1000000 in
theorem wlook_ok (wb b n : Nat) (xs : List Int) (w : World) (hn : w.cell? ⟨wb, 0, none⟩ = some (.int .i64 (n : Int))) (hb : Nums w b xs) (hl : xs.length ≤ 2) (hok : ∀ z ∈ xs, 0 ≤ z ∧ z < (n : Int)) :
    Calls Tryz.prog 43 #[.pointer (some ⟨wb, 0, none⟩), .slice (some ⟨b, 0, none⟩) xs.length xs.length] w fun e w' => e = .returned .nilIface ∧ w = w' := by
  have hbh := hid hb
  have hokh := hid hok
  clear hb hok
  go_enter Tryz.func43, Tryz.ntmps43
  go_wp2_with fail
  go_loop [6, 12] (fun _ u => ∃ j : Nat, j ≤ xs.length ∧ u = .int .i64 (j : Int)) (fun _ u => xs.length - (intOf u).toNat)
  case atStart => exact ⟨0, by omega, by go_num⟩
  case round =>
    obtain ⟨j, hj, rfl⟩ := hrel
    rcases Nat.lt_or_ge j xs.length with hlt | hge
    · obtain ⟨z, hz⟩ : ∃ z, xs[j]? = some z := ⟨_, List.getElem?_eq_getElem hlt⟩
      have hc := hbh.out.cell hz
      have hzz := hokh.out z (List.mem_of_getElem? hz)
      have t1 : decide (z < 0) = false := decide_eq_false (by omega)
      have t2 : decide ((n : Int) ≤ z) = false := decide_eq_false (by omega)
      clear hz hzz
      go_wp2_with fail
      go_round
      case rel => exact ⟨j + 1, by omega, by go_num⟩
      case measure => simp [intOf]; omega
    · obtain rfl : j = xs.length := by omega
      clear hge hj
      go_wp2_with fail
      go_ret
      exact ⟨rfl, rfl⟩

section
variable {lo wb n m rb cb : Nat} {tt : Nat → Option (Nat × Nat)} {w : World}

theorem Wm.look1 (h : Wm lo wb n m rb cb tt w) (x : Nat) (hx : x < n) : Calls Tryz.prog 43 #[.pointer (some ⟨wb, 0, none⟩), .slice (some ⟨w.heap.size, 0, none⟩) 1 1] (w.alloc (.cells #[.int .i64 (x : Int)] 3)) fun e w' => e = .returned .nilIface ∧ w.alloc (.cells #[.int .i64 (x : Int)] 3) = w' := by
  have ha := h.more ((Below.refl _ _).alloc (Nat.le_refl _) (.cells #[.int .i64 (x : Int)] 3))
  exact wlook_ok wb w.heap.size n [(x : Int)] _ ha.cells.1 (heap_alloc_new w _) (by simp) (by intro z hz; simp at hz; subst hz; omega)

theorem Wm.look2 (h : Wm lo wb n m rb cb tt w) (x y : Nat) (hx : x < n) (hy : y < n) : Calls Tryz.prog 43 #[.pointer (some ⟨wb, 0, none⟩), .slice (some ⟨w.heap.size, 0, none⟩) 2 2] (w.alloc (.cells #[.int .i64 (x : Int), .int .i64 (y : Int)] 3)) fun e w' => e = .returned .nilIface ∧ w.alloc (.cells #[.int .i64 (x : Int), .int .i64 (y : Int)] 3) = w' := by
  have ha := h.more ((Below.refl _ _).alloc (Nat.le_refl _) (.cells #[.int .i64 (x : Int), .int .i64 (y : Int)] 3))
  exact wlook_ok wb w.heap.size n [(x : Int), (y : Int)] _ ha.cells.1 (heap_alloc_new w _) (by simp) (by intro z hz; simp at hz; rcases hz with rfl | rfl <;> omega)

theorem Wm.bad1 (h : Wm lo wb n m rb cb tt w) (x : Int) (hx : ¬ (0 ≤ x ∧ x < (n : Int))) : Calls Tryz.prog 43 #[.pointer (some ⟨wb, 0, none⟩), .slice (some ⟨w.heap.size, 0, none⟩) 1 1] (w.alloc (.cells #[.int .i64 x] 3)) fun e w' => e = .returned (.iface 63 (.int .i64 12)) ∧ w.alloc (.cells #[.int .i64 x] 3) = w' := by
  have ha := h.more ((Below.refl _ _).alloc (Nat.le_refl _) (.cells #[.int .i64 x] 3))
  exact wlook_bad wb w.heap.size n [x] _ ha.cells.1 (heap_alloc_new w _) (by simp) (by simpa using hx)

theorem Wm.bad2 (h : Wm lo wb n m rb cb tt w) (x y : Int) (hx : ¬ ((0 ≤ x ∧ x < (n : Int)) ∧ (0 ≤ y ∧ y < (n : Int)))) : Calls Tryz.prog 43 #[.pointer (some ⟨wb, 0, none⟩), .slice (some ⟨w.heap.size, 0, none⟩) 2 2] (w.alloc (.cells #[.int .i64 x, .int .i64 y] 3)) fun e w' => e = .returned (.iface 63 (.int .i64 12)) ∧ w.alloc (.cells #[.int .i64 x, .int .i64 y] 3) = w' := by
  have ha := h.more ((Below.refl _ _).alloc (Nat.le_refl _) (.cells #[.int .i64 x, .int .i64 y] 3))
  exact wlook_bad wb w.heap.size n [x, y] _ ha.cells.1 (heap_alloc_new w _) (by simp) (by simpa using hx)
end

theorem iN_int (x : Nat) : ((iN x : Nat) : Int) = (x : Int) / 4 * 5 + (x : Int) % 4 := by unfold iN; omega
theorem tN_int (e : Nat) : ((tN e : Nat) : Int) = (e : Int) * 5 + 4 := by unfold tN; omega

set_option maxRecDepth 100000 in
set_option maxHeartbeats 1000000 in
theorem inode_ok (x : Nat) (hx : x ≤ 4194304) (w : World) : Calls Tryz.prog 29 #[.int .i64 (x : Int)] w fun e w' => e = .returned (.int .i64 ((iN x : Nat) : Int)) ∧ w = w' := by
  rw [iN_int]
  go_enter Tryz.func29, Tryz.ntmps29
  go_wp2_with fail
  go_ret
  exact ⟨ret_int (by omega), rfl⟩

set_option maxRecDepth 100000 in
set_option maxHeartbeats 1000000 in
theorem tnode_ok (e : Nat) (he : e ≤ 1048576) (w : World) : Calls Tryz.prog 30 #[.int .i64 (e : Int)] w fun x w' => x = .returned (.int .i64 ((tN e : Nat) : Int)) ∧ w = w' := by
  rw [tN_int]
  go_enter Tryz.func30, Tryz.ntmps30
  go_wp2_with fail
  go_ret
  exact ⟨ret_int (by omega), rfl⟩

/-- The tie of a node; -1: an item's. -/
def tOf (d : Nat) : Int := if d % 5 = 4 then ((d / 5 : Nat) : Int) else -1

set_option maxRecDepth 100000 in
set_option maxHeartbeats 1000000 in
theorem tieof_ok (d : Nat) (hd : d ≤ 8388608) (w : World) : Calls Tryz.prog 47 #[.int .i64 (d : Int)] w fun x w' => x = .returned (.int .i64 (tOf d)) ∧ w = w' := by
  unfold tOf
  by_cases h : d % 5 = 4
  · rw [if_pos h]
    have h' : (d : Int) % 5 = 4 := by omega
    have t : (((d : Int) % 5) != 4) = false := by rw [h']; rfl
    have e5 : ((d / 5 : Nat) : Int) = (d : Int) / 5 := by omega
    rw [e5]
    clear h h' e5
    go_enter Tryz.func47, Tryz.ntmps47
    go_wp2_with fail
    go_ret
    exact ⟨ret_int rfl, rfl⟩
  · rw [if_neg h]
    have h' : (d : Int) % 5 ≠ 4 := by omega
    have t : (((d : Int) % 5) != 4) = true := by rw [bne_iff_ne]; exact h'
    clear h h'
    go_enter Tryz.func47, Tryz.ntmps47
    go_wp2_with fail
    go_ret
    exact ⟨ret_int rfl, rfl⟩

set_option maxRecDepth 100000 in
set_option maxHeartbeats 1000000 in
theorem loose_ok (w : World) : Calls Tryz.prog 42 #[] w fun e w' => e = .returned (.agg #[.int .i64 0, .int .i64 0]) ∧ Below w.heap.size w w' := by
  go_enter Tryz.func42, Tryz.ntmps42
  go_wp2_with fail
  go_returns
  exact ⟨rfl, (Below.refl _ _).alloc (Nat.le_refl _) _⟩
end Go.Proofs.YtdmkbcbgjdmgdaaGreatDoor

namespace Go.Proofs.YtdmkbcbgjdmgdaaGreatDoor
open Go.RowKit
set_option linter.unusedVariables false

theorem results_cellT {P : Program} {fn : Func} {p u : Tmp} {ty : TypeId} (h : fn.results = #[.cell p ty, .tmp u]) (tmps : Array Value) (w : World) (g : Nat) (t : TypeId) (cs : Array Value) (fr : Nat × Nat) (d : TypeDesc)
    (hp : tmps.getD p undef = .pointer (some ⟨g, 0, none⟩)) (hg : w.heap[g]? = some (.cells cs t fr))
    (hu : P.underlying ty = some d) (hd : (match d with | .struct _ | .array _ _ => true | _ => false) = true) (hi : (P.info? ty).map (·.size) = some cs.size) :
    (results fn tmps).run P w = .ok (.tuple #[.agg cs, tmps.getD u undef]) w := by
  rw [results_cell_tmp h, hp]
  simp [asAddr, run_loadVar_row w g t ty cs fr d hg hu hd hi]

/-- A block of two cells. -/
theorem blk2 {w : World} {g : Nat} {t : TypeId} {a b : Value} (h : w.heap[g]? = some (.cells #[a, b] t (0, 0))) : (w.cell? ⟨g, 0, none⟩ = some a ∧ w.cell? ⟨g, 1, none⟩ = some b) ∧ w.frozen? ⟨g, 0, none⟩ = false ∧ w.frozen? ⟨g, 1, none⟩ = false := by
  refine ⟨⟨?_, ?_⟩, ?_, ?_⟩
  · unfold World.cell?; rw [h]; simp
  · unfold World.cell?; rw [h]; simp
  · unfold World.frozen?; rw [h]; simp
  · unfold World.frozen?; rw [h]; simp

theorem set2_block {w : World} {g : Nat} {t : TypeId} {u v : Value} (h : w.heap[g]? = some (.cells #[u, v] t (0, 0))) (a b : Value) : ((w.setCell ⟨g, 0, none⟩ a).setCell ⟨g, 1, none⟩ b).heap[g]? = some (.cells #[a, b] t (0, 0)) := by
  simp [World.setCell, h, Array.getElem?_modify]

theorem set2_below {B : Nat} {a w : World} {g : Nat} (h : Below B a w) (hg : B ≤ g) (x y : Value) : Below B a ((w.setCell ⟨g, 0, none⟩ x).setCell ⟨g, 1, none⟩ y) :=
  (h.setCell (p := ⟨g, 0, none⟩) hg x).setCell (p := ⟨g, 1, none⟩) hg y

section
variable {lo wb n m rb cb : Nat} {tt : Nat → Option (Nat × Nat)} {w : World}

/-- The row, and the block's last cell. -/
theorem Wm.row (h : Wm lo wb n m rb cb tt w) : ∃ tv T, w.cell? ⟨wb, 4, none⟩ = some tv ∧ w.frozen? ⟨wb, 4, none⟩ = false ∧ w.ownsRow lo 84 2 tv T (ecs tt T) ∧ T ≤ m ∧ ∀ e, T ≤ e → tt e = none := by
  obtain ⟨tv, T, h1, h2⟩ := h.st
  refine ⟨tv, T, ?_, ?_, h2⟩
  · unfold World.cell?; rw [h1]; simp
  · unfold World.frozen?; rw [h1]; simp

theorem ec_ints (o : Option (Nat × Nat)) : ∃ a b : Int, ec o = [.int .i64 a, .int .i64 b] := by
  cases o with
  | none => exact ⟨0, 0, rfl⟩
  | some p => cases p; exact ⟨_, _, rfl⟩

set_option maxRecDepth 100000 in
set_option maxHeartbeats 2000000 in
theorem Wm.between (h : Wm lo wb n m rb cb tt w) (hm : m ≤ 1048576) (e : Nat) (he : e < m) : Calls Tryz.prog 41 #[.pointer (some ⟨wb, 0, none⟩), .int .i64 (e : Int)] w fun x w' => ∃ a b : Int, x = .returned (.tuple #[.agg #[.int .i64 a, .int .i64 b], .nilIface]) ∧ ec (tt e) = [.int .i64 a, .int .i64 b] ∧ Below w.heap.size w w' := by
  obtain ⟨w1, hw1⟩ : ∃ w1, w.alloc (.cells #[.int .i64 0, .int .i64 0] 84) = w1 := ⟨_, rfl⟩
  have hbw : Hid (Below w.heap.size w w1) := by rw [← hw1]; exact hid ((Below.refl _ _).alloc (Nat.le_refl _) _)
  have kr : Hid (w1.heap[w.heap.size]? = some (.cells #[.int .i64 0, .int .i64 0] 84 (0, 0))) := by rw [← hw1]; exact hid (heap_alloc_new w _)
  have h1 := h.more hbw.out
  obtain ⟨c0, c1, c2, c3⟩ := h1.cells
  obtain ⟨tv, T, c4, c5, hrow, hT, hno⟩ := h1.row
  replace hw1 := hid hw1
  have v1 : decide ((e : Int) < 0) = false := decide_eq_false (by omega)
  have v2 : decide ((m : Int) ≤ (e : Int)) = false := decide_eq_false (by omega)
  have v2' : decide (m ≤ e) = false := decide_eq_false (by omega)
  have hl := hrow.1
  by_cases hlt : e < T
  · have v3 : decide ((T : Int) ≤ (e : Int)) = false := decide_eq_false (by omega)
    have v3' : decide (T ≤ e) = false := decide_eq_false (by omega)
    obtain ⟨a, b, hab⟩ := ec_ints (tt e)
    obtain ⟨g, cap, rfl, hcap⟩ : ∃ g cap, tv = .slice (some ⟨g, 0, none⟩) T cap ∧ T ≤ cap := by
      rcases hrow.2 with ⟨_, e0⟩ | ⟨g, cap, cur, e0, _, _, hc, _⟩
      · omega
      · exact ⟨g, cap, e0, hc⟩
    have d0 : w1.cell? ⟨g, e * 2, none⟩ = some (.int .i64 a) := by
      have := hrow.cells (g := g) rfl (e * 2 + 0) _ (by rw [ecs_get tt T e 0 hlt (by omega), hab]; rfl)
      rw [show (⟨g, 0, none⟩ : Addr).add (e * 2 + 0) = ⟨g, e * 2, none⟩ from by unfold Addr.add; split <;> simp_all] at this
      exact this
    have d1 : w1.cell? ⟨g, e * 2 + 1, none⟩ = some (.int .i64 b) := by
      have := hrow.cells (g := g) rfl (e * 2 + 1) _ (by rw [ecs_get tt T e 1 hlt (by omega), hab]; rfl)
      rw [show (⟨g, 0, none⟩ : Addr).add (e * 2 + 1) = ⟨g, e * 2 + 1, none⟩ from by unfold Addr.add; split <;> simp_all] at this
      exact this
    have hfin := hid (And.intro (set2_block kr.out (.int .i64 a) (.int .i64 b)) (set2_below hbw.out (Nat.le_refl _) (.int .i64 a) (.int .i64 b)))
    obtain ⟨⟨f1, f2⟩, f3, f4⟩ := blk2 kr.out
    replace hab := hid hab
    clear h h1 hrow hno hl
    go_enter Tryz.func41, Tryz.ntmps41
    go_upto_region 1 with fail
    rw [hw1.out]
    clear hw1
    go_wp2_with fail
    refine bodyPost_ret (results_cellT rfl _ _ w.heap.size 84 _ (0, 0) _ rfl hfin.out.1 Tryz.underlying84 rfl (by kernel_rfl)) rfl ?_
    exact ⟨a, b, rfl, hab.out, hfin.out.2⟩
  · have v3 : decide ((T : Int) ≤ (e : Int)) = true := decide_eq_true (by omega)
    have v3' : decide (T ≤ e) = true := decide_eq_true (by omega)
    have hab : Hid (ec (tt e) = [.int .i64 0, .int .i64 0]) := by rw [hno e (by omega)]; exact hid rfl
    obtain ⟨ad, cap, rfl⟩ : ∃ ad cap, tv = .slice ad T cap := by
      rcases hrow.2 with ⟨e0, e1⟩ | ⟨g, cap, cur, e0, _⟩
      · exact ⟨none, 0, by rw [e0, e1]⟩
      · exact ⟨_, cap, e0⟩
    clear h h1 hrow hno hl
    go_enter Tryz.func41, Tryz.ntmps41
    go_upto_region 1 with fail
    rw [hw1.out]
    clear hw1
    go_wp2_with fail
    refine (loose_ok _).mono ?_
    rintro x w2 ⟨rfl, b2⟩
    replace kr := hid ((b2.block _ (Array.getElem?_eq_some_iff.1 kr.out).1).trans kr.out)
    replace hbw := hid (hbw.out.trans (b2.mono hbw.out.size))
    have hfin := hid (And.intro (set2_block kr.out (.int .i64 0) (.int .i64 0)) (set2_below hbw.out (Nat.le_refl _) (.int .i64 0) (.int .i64 0)))
    obtain ⟨⟨f1, f2⟩, f3, f4⟩ := blk2 kr.out
    clear b2
    go_wp2_with fail
    refine bodyPost_ret (results_cellT rfl _ _ w.heap.size 84 _ (0, 0) _ rfl hfin.out.1 Tryz.underlying84 rfl (by kernel_rfl)) rfl ?_
    exact ⟨0, 0, rfl, hab.out, hfin.out.2⟩

set_option maxRecDepth 100000 in
set_option maxHeartbeats 2000000 in
theorem Wm.between_bad (h : Wm lo wb n m rb cb tt w) (e : Int) (he : ¬ (0 ≤ e ∧ e < (m : Int))) : Calls Tryz.prog 41 #[.pointer (some ⟨wb, 0, none⟩), .int .i64 e] w fun x w' => x = .returned (.tuple #[.agg #[.int .i64 0, .int .i64 0], .iface 63 (.int .i64 12)]) ∧ Below w.heap.size w w' := by
  obtain ⟨w1, hw1⟩ : ∃ w1, w.alloc (.cells #[.int .i64 0, .int .i64 0] 84) = w1 := ⟨_, rfl⟩
  have hbw : Hid (Below w.heap.size w w1) := by rw [← hw1]; exact hid ((Below.refl _ _).alloc (Nat.le_refl _) _)
  have kr : Hid (w1.heap[w.heap.size]? = some (.cells #[.int .i64 0, .int .i64 0] 84 (0, 0))) := by rw [← hw1]; exact hid (heap_alloc_new w _)
  have h1 := h.more hbw.out
  obtain ⟨c0, c1, c2, c3⟩ := h1.cells
  replace hw1 := hid hw1
  clear h h1
  by_cases q : e < 0
  · have v1 : decide (e < 0) = true := decide_eq_true q
    clear he
    go_enter Tryz.func41, Tryz.ntmps41
    go_upto_region 1 with fail
    rw [hw1.out]
    clear hw1
    go_wp2_with fail
    refine (loose_ok _).mono ?_
    rintro x w2 ⟨rfl, b2⟩
    replace kr := hid ((b2.block _ (Array.getElem?_eq_some_iff.1 kr.out).1).trans kr.out)
    replace hbw := hid (hbw.out.trans (b2.mono hbw.out.size))
    have hfin := hid (And.intro (set2_block kr.out (.int .i64 0) (.int .i64 0)) (set2_below hbw.out (Nat.le_refl _) (.int .i64 0) (.int .i64 0)))
    obtain ⟨⟨f1, f2⟩, f3, f4⟩ := blk2 kr.out
    clear b2
    go_wp2_with fail
    refine bodyPost_ret (results_cellT rfl _ _ w.heap.size 84 _ (0, 0) _ rfl hfin.out.1 Tryz.underlying84 rfl (by kernel_rfl)) rfl ?_
    exact ⟨rfl, hfin.out.2⟩
  · have v1 : decide (e < 0) = false := decide_eq_false q
    have v2 : decide ((m : Int) ≤ e) = true := decide_eq_true (by omega)
    clear he
    go_enter Tryz.func41, Tryz.ntmps41
    go_upto_region 1 with fail
    rw [hw1.out]
    clear hw1
    go_wp2_with fail
    refine (loose_ok _).mono ?_
    rintro x w2 ⟨rfl, b2⟩
    replace kr := hid ((b2.block _ (Array.getElem?_eq_some_iff.1 kr.out).1).trans kr.out)
    replace hbw := hid (hbw.out.trans (b2.mono hbw.out.size))
    have hfin := hid (And.intro (set2_block kr.out (.int .i64 0) (.int .i64 0)) (set2_below hbw.out (Nat.le_refl _) (.int .i64 0) (.int .i64 0)))
    obtain ⟨⟨f1, f2⟩, f3, f4⟩ := blk2 kr.out
    clear b2
    go_wp2_with fail
    refine bodyPost_ret (results_cellT rfl _ _ w.heap.size 84 _ (0, 0) _ rfl hfin.out.1 Tryz.underlying84 rfl (by kernel_rfl)) rfl ?_
    exact ⟨rfl, hfin.out.2⟩
end

set_option maxRecDepth 100000 in
set_option maxHeartbeats 2000000 in
theorem between_nil (e : Int) (w : World) : Calls Tryz.prog 41 #[.pointer none, .int .i64 e] w fun x w' => x = .returned (.tuple #[.agg #[.int .i64 0, .int .i64 0], .iface 63 (.int .i64 1)]) ∧ Below w.heap.size w w' := by
  obtain ⟨w1, hw1⟩ : ∃ w1, w.alloc (.cells #[.int .i64 0, .int .i64 0] 84) = w1 := ⟨_, rfl⟩
  have hbw : Hid (Below w.heap.size w w1) := by rw [← hw1]; exact hid ((Below.refl _ _).alloc (Nat.le_refl _) _)
  have kr : Hid (w1.heap[w.heap.size]? = some (.cells #[.int .i64 0, .int .i64 0] 84 (0, 0))) := by rw [← hw1]; exact hid (heap_alloc_new w _)
  replace hw1 := hid hw1
  go_enter Tryz.func41, Tryz.ntmps41
  go_upto_region 1 with fail
  rw [hw1.out]
  clear hw1
  go_wp2_with fail
  refine (loose_ok _).mono ?_
  rintro x w2 ⟨rfl, b2⟩
  replace kr := hid ((b2.block _ (Array.getElem?_eq_some_iff.1 kr.out).1).trans kr.out)
  replace hbw := hid (hbw.out.trans (b2.mono hbw.out.size))
  have hfin := hid (And.intro (set2_block kr.out (.int .i64 0) (.int .i64 0)) (set2_below hbw.out (Nat.le_refl _) (.int .i64 0) (.int .i64 0)))
  obtain ⟨⟨f1, f2⟩, f3, f4⟩ := blk2 kr.out
  clear b2
  go_wp2_with fail
  refine bodyPost_ret (results_cellT rfl _ _ w.heap.size 84 _ (0, 0) _ rfl hfin.out.1 Tryz.underlying84 rfl (by kernel_rfl)) rfl ?_
  exact ⟨rfl, hfin.out.2⟩
end Go.Proofs.YtdmkbcbgjdmgdaaGreatDoor

namespace Go.Proofs.YtdmkbcbgjdmgdaaGreatDoor
open Go.RowKit
set_option linter.unusedVariables false

/-- Two cells of the row stored. -/
theorem row_set2 {w : World} {lo g cap T e : Nat} {tt : Nat → Option (Nat × Nat)} {o : Option (Nat × Nat)} {x y : Value} (h : w.ownsRow lo 84 2 (.slice (some ⟨g, 0, none⟩) T cap) T (ecs tt T)) (he : e < T) (ho : ec o = [x, y]) :
    ((w.setCell ⟨g, e * 2, none⟩ x).setCell ⟨g, e * 2 + 1, none⟩ y).ownsRow lo 84 2 (.slice (some ⟨g, 0, none⟩) T cap) T (ecs (updT tt e o) T) := by
  refine ⟨ecs_length _ _, ?_⟩
  rcases h.2 with ⟨e0, _⟩ | ⟨g', cap', cur, e0, hb, hg, hc, hm, hs, htake⟩
  · cases e0
  · injection e0 with e1 e2 e3
    injection e1 with e1
    injection e1 with e1
    subst e1 e3
    refine .inr ⟨g, cap, ((cur.toList.set (e * 2) x).set (e * 2 + 1) y).toArray, rfl, hb, ?_, hc, hm, ?_, ?_⟩
    · simp [World.setCell, hg, Array.getElem?_modify]
      apply Array.ext'
      simp
    · simp [hs]
    · rw [← ecs_set ho T he, ← htake]
      simp [List.take_set]

theorem row_cell {w : World} {lo g cap T e k : Nat} {tt : Nat → Option (Nat × Nat)} (h : w.ownsRow lo 84 2 (.slice (some ⟨g, 0, none⟩) T cap) T (ecs tt T)) (he : e < T) (hk : k < 2) : (∃ u, w.cell? ⟨g, e * 2 + k, none⟩ = some u) ∧ w.frozen? ⟨g, e * 2 + k, none⟩ = false := by
  rcases h.2 with ⟨e0, _⟩ | ⟨g', cap', cur, e0, hb, hg, hc, hm, hs, htake⟩
  · cases e0
  · injection e0 with e1 e2 e3
    injection e1 with e1
    injection e1 with e1
    subst e1 e3
    refine ⟨⟨cur[e * 2 + k]'(by omega), ?_⟩, ?_⟩
    · unfold World.cell?; rw [hg]; simp
    · unfold World.frozen?; rw [hg]; simp

section
variable {lo wb n m rb cb : Nat} {tt : Nat → Option (Nat × Nat)} {w : World}

/-- The ends of a tie stored where the row has it. -/
theorem Wm.put {g cap T e : Nat} {o : Option (Nat × Nat)} {x y : Value} (hlw : lo ≤ wb) (hlo : lo ≤ w.heap.size)
    (hblk : w.heap[wb]? = some (.cells #[.int .i64 (n : Int), .int .i64 (m : Int), .pointer (some ⟨rb, 0, none⟩), .pointer (some ⟨cb, 0, none⟩), .slice (some ⟨g, 0, none⟩) T cap] 73 (0, 0)))
    (h : w.ownsRow lo 84 2 (.slice (some ⟨g, 0, none⟩) T cap) T (ecs tt T)) (hT : T ≤ m) (hno : ∀ e, T ≤ e → tt e = none) (he : e < T) (ho : ec o = [x, y]) :
    Wm lo wb n m rb cb (updT tt e o) ((w.setCell ⟨g, e * 2, none⟩ x).setCell ⟨g, e * 2 + 1, none⟩ y) ∧ KeepO w ((w.setCell ⟨g, e * 2, none⟩ x).setCell ⟨g, e * 2 + 1, none⟩ y) ∧ Below lo w ((w.setCell ⟨g, e * 2, none⟩ x).setCell ⟨g, e * 2 + 1, none⟩ y) := by
  obtain ⟨hg1, hg2⟩ := h.lt g rfl
  have hg : ∃ cs fr, w.heap[g]? = some (.cells cs 84 fr) := by
    rcases h.2 with ⟨e0, _⟩ | ⟨g', cap', cur, e0, hb, hg, _⟩
    · cases e0
    · injection e0 with e1 e2 e3
      injection e1 with e1
      injection e1 with e1
      subst e1
      exact ⟨_, _, hg⟩
  obtain ⟨cs, fr, hg⟩ := hg
  have other : ∀ k, k ≠ g → ((w.setCell ⟨g, e * 2, none⟩ x).setCell ⟨g, e * 2 + 1, none⟩ y).heap[k]? = w.heap[k]? := fun k hk => by
    rw [Below.heap_setCell _ _ _ _ hk, Below.heap_setCell _ _ _ _ hk]
  have hwg : wb ≠ g := fun q => by
    rw [q, hg] at hblk
    injection hblk with hblk
    injection hblk with _ hblk
    exact absurd hblk (by decide)
  refine ⟨⟨hlw, _, T, (other wb hwg).trans hblk, row_set2 h he ho, hT, fun k hk => ?_⟩, fun k cs' t fr' hk h1 h2 => ?_, ((Below.refl _ _).setCell (p := ⟨g, e * 2, none⟩) hg1 x).setCell (p := ⟨g, e * 2 + 1, none⟩) hg1 y⟩
  · rw [updT_ne _ (by omega)]
    exact hno k hk
  · refine (other k (fun q => ?_)).trans hk
    rw [q, hg] at hk
    injection hk with hk
    injection hk with _ hk
    exact h2 hk.symm

theorem KeepO.drew {a b : World} (h : KeepO a b) : KeepO a b.drew := h
theorem Wm.drew (h : Wm lo wb n m rb cb tt w) : Wm lo wb n m rb cb tt w.drew := h.more (Below.refl _ _).drew

/-- Where the row lies. -/
theorem Wm.rowlt (h : Wm lo wb n m rb cb tt w) : wb < w.heap.size := by
  obtain ⟨tv, T, h1, _⟩ := h.st
  exact (Array.getElem?_eq_some_iff.1 h1).1

/-- The row grown by zeros, and its new value stored. -/
theorem Wm.grow {tv tv' : Value} {T more : Nat} {w2 : World} (hlw : lo ≤ wb) (hlo : lo ≤ w.heap.size)
    (hblk : w.heap[wb]? = some (.cells #[.int .i64 (n : Int), .int .i64 (m : Int), .pointer (some ⟨rb, 0, none⟩), .pointer (some ⟨cb, 0, none⟩), tv] 73 (0, 0)))
    (hrow : w.ownsRow lo 84 2 tv T (ecs tt T)) (hno : ∀ e, T ≤ e → tt e = none) (hr2 : w2.ownsRow lo 84 2 tv' (T + more) (ecs tt (T + more))) (hgr : w.grownBy w2 tv.ownBlock) :
    (w2.cell? ⟨wb, 4, none⟩ = some tv ∧ w2.frozen? ⟨wb, 4, none⟩ = false) ∧
    (w2.setCell ⟨wb, 4, none⟩ tv').heap[wb]? = some (.cells #[.int .i64 (n : Int), .int .i64 (m : Int), .pointer (some ⟨rb, 0, none⟩), .pointer (some ⟨cb, 0, none⟩), tv'] 73 (0, 0)) ∧
    (w2.setCell ⟨wb, 4, none⟩ tv').ownsRow lo 84 2 tv' (T + more) (ecs tt (T + more)) ∧
    KeepO w (w2.setCell ⟨wb, 4, none⟩ tv') ∧ Below lo w (w2.setCell ⟨wb, 4, none⟩ tv') ∧
    ∀ k, k < w.heap.size → k ≠ wb → some k ≠ tv.ownBlock → (w2.setCell ⟨wb, 4, none⟩ tv').heap[k]? = w.heap[k]? := by
  have hwl := (Array.getElem?_eq_some_iff.1 hblk).1
  have hnb : some wb ≠ tv.ownBlock := fun q => by
    rcases hrow.2 with ⟨rfl, _⟩ | ⟨g, cap, cur, rfl, _, hg, _⟩
    · cases q
    · injection q with q
      have e2 : (⟨g, 0, none⟩ : Addr).block = g := rfl
      rw [e2] at q
      rw [q, hg] at hblk
      injection hblk with hblk
      injection hblk with _ hblk
      exact absurd hblk (by decide)
  have hb2 := (hgr.block wb hwl hnb).trans hblk
  have other : ∀ k, k ≠ wb → (w2.setCell ⟨wb, 4, none⟩ tv').heap[k]? = w2.heap[k]? := fun k hk => Below.heap_setCell _ _ _ _ hk
  refine ⟨⟨?_, ?_⟩, ?_, ?_, fun k cs t fr hk h1 h2 => ?_, ?_, fun k hk h1 h2 => (other k h1).trans (hgr.block k hk h2)⟩
  · unfold World.cell?; rw [hb2]; simp
  · unfold World.frozen?; rw [hb2]; simp
  · simp [World.setCell, hb2, Array.getElem?_modify]
  · refine row_of hr2 (fun k cs hk => (other k (fun q => ?_)).trans hk)
    rw [q, hb2] at hk
    injection hk with hk
    injection hk with _ hk
    exact absurd hk (by decide)
  · have hkl := (Array.getElem?_eq_some_iff.1 hk).1
    refine ((other k (fun q => ?_)).trans (hgr.block k hkl (fun q => ?_))).trans hk
    · rw [q, hblk] at hk
      injection hk with hk
      injection hk with _ hk
      exact h1 hk.symm
    · rcases hrow.2 with ⟨rfl, _⟩ | ⟨g, cap, cur, rfl, _, hg, _⟩
      · cases q
      · injection q with q
        have e2 : (⟨g, 0, none⟩ : Addr).block = g := rfl
        rw [e2] at q
        rw [q, hg] at hk
        injection hk with hk
        injection hk with _ hk
        exact h2 hk.symm
  · refine (Below.setCell (p := ⟨wb, 4, none⟩) ⟨hgr.os, hgr.tape, hgr.output, hgr.size, fun k hk => hgr.block k (by omega) (fun q => ?_)⟩ hlw tv')
    have := (hrow.lt k q.symm).1
    omega

set_option maxRecDepth 100000 in
set_option maxHeartbeats 4000000 in
theorem Wm.keep_ok {w0 : World} (h : Wm lo wb n m rb cb tt w0) (hb0 : Below w0.heap.size w0 w) (hlo : lo ≤ w0.heap.size) (hm : m ≤ 1048576) (e : Nat) (he : e < m) (o : Option (Nat × Nat)) (x y : Int) (ho : ec o = [.int .i64 x, .int .i64 y]) :
    Calls Tryz.prog 59 #[.pointer (some ⟨wb, 0, none⟩), .int .i64 (e : Int), .agg #[.int .i64 x, .int .i64 y]] w fun z w' => z = .returned (.tuple #[]) ∧ Wm lo wb n m rb cb (updT tt e o) w' ∧ KeepO w0 w' ∧ Below lo w0 w' ∧ ∀ k, w0.heap.size ≤ k → k < w.heap.size → w'.heap[k]? = w.heap[k]? := by
  have hlw := h.lw
  have hwb := h.rowlt
  obtain ⟨w1, hw1⟩ : ∃ w1, w.alloc (.cells #[.int .i64 x, .int .i64 y] 84) = w1 := ⟨_, rfl⟩
  have hbA : Hid (Below w.heap.size w w1) := by rw [← hw1]; exact hid ((Below.refl _ _).alloc (Nat.le_refl _) _)
  have hbw : Hid (Below w0.heap.size w0 w1) := hid (hb0.trans (hbA.out.mono hb0.size))
  have kr : Hid (w1.heap[w.heap.size]? = some (.cells #[.int .i64 x, .int .i64 y] 84 (0, 0))) := by rw [← hw1]; exact hid (heap_alloc_new w _)
  have h0s := hb0.size
  have h1s := hbA.out.size
  obtain ⟨tv, T, hblk0, hrow0, hT, hno⟩ := h.st
  have hblk : w1.heap[wb]? = some (.cells #[.int .i64 (n : Int), .int .i64 (m : Int), .pointer (some ⟨rb, 0, none⟩), .pointer (some ⟨cb, 0, none⟩), tv] 73 (0, 0)) := (hbw.out.block _ hwb).trans hblk0
  have hrow : w1.ownsRow lo 84 2 tv T (ecs tt T) := row_of hrow0 (fun k cs hk => (hbw.out.block k (Array.getElem?_eq_some_iff.1 hk).1).trans hk)
  have hrlt : ∀ k, tv.ownBlock = some k → k < w0.heap.size := fun k hk => (hrow0.lt k hk).2
  have hlo1 : lo ≤ w1.heap.size := by omega
  replace hw1 := hid hw1
  have ho := hid ho
  have hno := hid hno
  clear h hblk0 hrow0
  by_cases hlt : e < T
  · obtain ⟨g, cap, rfl, hcap⟩ : ∃ g cap, tv = .slice (some ⟨g, 0, none⟩) T cap ∧ T ≤ cap := by
      rcases hrow.2 with ⟨_, e0⟩ | ⟨g, cap, cur, e0, _, _, hc, _⟩
      · omega
      · exact ⟨g, cap, e0, hc⟩
    have hgl : g < w0.heap.size := hrlt g rfl
    have hfin := hid (Wm.put hlw hlo1 hblk hrow hT hno.out hlt ho.out)
    have hold : Hid (∀ k, w0.heap.size ≤ k → k < w.heap.size → ((w1.setCell ⟨g, e * 2, none⟩ (.int .i64 x)).setCell ⟨g, e * 2 + 1, none⟩ (.int .i64 y)).heap[k]? = w.heap[k]?) := hid (fun k hk1 hk2 => by
      rw [Below.heap_setCell _ _ _ _ (by show k ≠ g; omega), Below.heap_setCell _ _ _ _ (by show k ≠ g; omega)]
      exact hbA.out.block k hk2)
    have c4 : w1.cell? ⟨wb, 4, none⟩ = some (.slice (some ⟨g, 0, none⟩) T cap) := by unfold World.cell?; rw [hblk]; simp
    obtain ⟨⟨u0, d0⟩, d1⟩ := row_cell hrow hlt (show 0 < 2 by omega)
    obtain ⟨⟨u1, d2⟩, d3⟩ := row_cell hrow hlt (show 1 < 2 by omega)
    simp only [Nat.add_zero] at d0 d1
    obtain ⟨⟨f1, f2⟩, f3, f4⟩ := blk2 kr.out
    have v1 : decide ((0 : Int) < (e : Int) + 1 - (T : Int)) = false := decide_eq_false (by omega)
    have hTh := hid hT
    have hblkh := hid hblk
    have hrowh := hid hrow
    clear hblk hrow
    go_enter Tryz.func59, Tryz.ntmps59
    go_upto_region 1 with fail
    rw [hw1.out]
    clear hw1
    go_wp2_with fail
    go_region
    all_goals
      go_wp2_with fail
      first | go_end0 | refine bodyPost_ret (results_none rfl _ _ _) rfl ?_
      exact ⟨rfl, hfin.out.1.drew, ((KeepO.ofBelow hbw.out).trans hfin.out.2.1).drew, ((hbw.out.mono hlo).trans hfin.out.2.2).drew, hold.out⟩
  · obtain ⟨more, hmore⟩ : ∃ more : Nat, e + 1 = T + more := ⟨e + 1 - T, by omega⟩
    obtain ⟨tv', w2, hr, hrow2, hgr, hob⟩ := run_append_ends w1 lo 71 tv T (ecs tt T) hrow more (by omega) (by omega) hlo1
    rw [ecs_zeros more hno.out] at hrow2
    obtain ⟨⟨s1, s2⟩, hblk3, hrow3, k3, b3, o3⟩ := Wm.grow hlw hlo1 hblk hrow hno.out hrow2 hgr
    obtain ⟨w3, hw3⟩ : ∃ w3, w2.setCell ⟨wb, 4, none⟩ tv' = w3 := ⟨_, rfl⟩
    rw [hw3] at hblk3 hrow3 k3 b3 o3
    have kr3 : w3.heap[w.heap.size]? = some (.cells #[.int .i64 x, .int .i64 y] 84 (0, 0)) := (o3 _ (Array.getElem?_eq_some_iff.1 kr.out).1 (by omega) (fun q => by have := hrlt _ q.symm; omega)).trans kr.out
    have old3 : ∀ k, w0.heap.size ≤ k → k < w.heap.size → w3.heap[k]? = w.heap[k]? := fun k hk1 hk2 => (o3 k (by omega) (by omega) (fun q => by have := hrlt _ q.symm; omega)).trans (hbA.out.block k hk2)
    have hwold := hgr.size
    obtain ⟨adt, capt, rfl⟩ : ∃ ad cap, tv = .slice ad T cap := by
      rcases hrow.2 with ⟨e0, e1⟩ | ⟨g, cap, cur, e0, _⟩
      · exact ⟨none, 0, by rw [e0, e1]⟩
      · exact ⟨_, cap, e0⟩
    have c4 : w1.cell? ⟨wb, 4, none⟩ = some (.slice adt T capt) := by unfold World.cell?; rw [hblk]; simp
    have hlt3 : e < T + more := by omega
    rw [← hmore] at hrow3 hlt3
    obtain ⟨g, cap, rfl, hcap⟩ : ∃ g cap, tv' = .slice (some ⟨g, 0, none⟩) (e + 1) cap ∧ e + 1 ≤ cap := by
      rcases hrow3.2 with ⟨_, e0⟩ | ⟨g, cap, cur, e0, _, _, hc, _⟩
      · omega
      · exact ⟨g, cap, e0, hc⟩
    have hgo : g < w0.heap.size ∨ w1.heap.size ≤ g := by
      rcases hob with q | q
      · exact .inl (hrlt g q.symm)
      · injection q with q
        have q' : g = w1.heap.size := q
        exact .inr (by omega)
    have hlo3 : lo ≤ w3.heap.size := Nat.le_trans hlo1 b3.size
    have hfin := hid (Wm.put hlw hlo3 hblk3 hrow3 (by omega) (fun k hk => hno.out k (by omega)) hlt3 ho.out)
    have hold : Hid (∀ k, w0.heap.size ≤ k → k < w.heap.size → ((w3.setCell ⟨g, e * 2, none⟩ (.int .i64 x)).setCell ⟨g, e * 2 + 1, none⟩ (.int .i64 y)).heap[k]? = w.heap[k]?) := hid (fun k hk1 hk2 => by
      rw [Below.heap_setCell _ _ _ _ (by show k ≠ g; omega), Below.heap_setCell _ _ _ _ (by show k ≠ g; omega)]
      exact old3 k hk1 hk2)
    have hk3 := hid ((KeepO.ofBelow hbw.out).trans k3)
    have hb3 := hid ((hbw.out.mono hlo).trans b3)
    have c43 : w3.cell? ⟨wb, 4, none⟩ = some (.slice (some ⟨g, 0, none⟩) (e + 1) cap) := by unfold World.cell?; rw [hblk3]; simp
    obtain ⟨⟨u0, d0⟩, d1⟩ := row_cell hrow3 hlt3 (show 0 < 2 by omega)
    obtain ⟨⟨u1, d2⟩, d3⟩ := row_cell hrow3 hlt3 (show 1 < 2 by omega)
    simp only [Nat.add_zero] at d0 d1
    obtain ⟨⟨f1, f2⟩, f3, f4⟩ := blk2 kr3
    have v1 : decide ((0 : Int) < (e : Int) + 1 - (T : Int)) = true := decide_eq_true (by omega)
    have hme : (e : Int) + 1 - (T : Int) = (more : Int) := by omega
    rw [← hme] at hr
    have hr := hid hr
    replace hw3 := hid hw3
    have hs12 := hid (And.intro s1 s2)
    clear hblk hrow hblk3 hrow3 k3 b3 o3 kr3 old3 hgr hrow2 hob hrlt hmore hme s1 s2 hbw kr hbA
    go_enter Tryz.func59, Tryz.ntmps59
    go_upto_region 1 with fail
    rw [hw1.out]
    clear hw1
    go_upto_region 3 with fail
    obtain ⟨s1, s2⟩ := hs12.out
    go_upto_region 4 with (at_builtin; refine wpList_append_run rfl (.tmp 21) (.tmp 22) 71 3 rfl _ _ rfl rfl hr.out ?_)
    rw [hw3.out]
    clear hw3 s1 s2 hs12 hr c4
    go_region
    all_goals
      go_wp2_with fail
      first | go_end0 | refine bodyPost_ret (results_none rfl _ _ _) rfl ?_
      exact ⟨rfl, hfin.out.1.drew, (hk3.out.trans hfin.out.2.1).drew, (hb3.out.trans hfin.out.2.2).drew, hold.out⟩
end
end Go.Proofs.YtdmkbcbgjdmgdaaGreatDoor
