/- The document's Lift, walked. -/
import Derived.Test.YtboafgimjadboaaGreatDoorBdoc
import Derived.Test.YtboafgimjadboaaGreatDoorRegion
namespace Go.Proofs.YtboafgimjadboaaGreatDoor
open Go.RowKit
set_option linter.unusedVariables false

/-- append onto a row of the call's own, as one step of a region that draws. -/
theorem step_append_own {P : Program} {ops : Array Oper} {o : Oper} {a : Act} {w : World} {K : Act → World → Prop} {Q : Exit → Act → World → Prop} {E : Prop}
    (hg : o.guard = none) (s x : Operand) (t : TypeId) (hop : o.op = Op.call { callee := Callee.builtin Builtin.append, args := #[s, x], argTypes := #[t, t] })
    (base : Nat) (e : TypeId) (i : TypeInfo) (z : Value) (size bytes : Nat) (h1 : P.underlying t = some (.slice e)) (h2 : P.info? e = some i) (h3 : i.zero = some z) (h4 : i.size = size) (h5 : i.bytes = bytes) (h6 : z.cells.size = size) (h7 : 0 < size)
    (v : Value) (n : Nat) (xs : List Value) (hs : a.eval s = v) (hown : w.ownsRow base e size v n xs)
    (ad : Addr) (m c : Nat) (news : List Value) (hx : a.eval x = .slice (some ad) m c) (hn : news.length = m * size) (hc : ∀ j u, news[j]? = some u → w.cell? (ad.add j) = some u) (h1c : ∀ u ∈ news, u.oneCell' = true)
    (b1 : n + m ≤ maxLen) (b2 : (n + m) * bytes ≤ 140737488355328) (hb : base ≤ w.heap.size)
    (hK : ∀ v' w', w'.ownsRow base e size v' (n + m) (xs ++ news) → w.grownBy w' v.ownBlock → K (a.put o.dst v') w') :
    if Region.wanted o (yielded ops a.tmps) = true then Oper.wp P o a w K Q else E := by
  have hw : Region.wanted o (yielded ops a.tmps) = true := by simp [Region.wanted, hg]
  rw [if_pos hw]
  obtain ⟨v', w', hrun, r1, r2, _⟩ := run_append_own (P := P) w base t o.type e i z size bytes h1 h2 h3 h4 h5 h6 h7 v n xs hown ad m c news hn hc h1c b1 b2 hb
  unfold Oper.wp
  simp [execOp, hop, resolve, invoke, builtin, hs, hx, hrun, Result.andThen]
  exact hK v' w' r1 r2

theorem ncs_one (l : List Nat) : ∀ u ∈ ncs l, u.oneCell' = true := by
  intro u hu
  obtain ⟨x, _, rfl⟩ := List.mem_map.1 hu
  rfl

/-- What lay there before two appends stays. -/
theorem stay {w x1 x2 : World} {n : Nat} {t : TypeId} {size : Nat} {v : Value} {xs : List Value} (ho : x1.ownsRow w.heap.size t size v n xs) (h1 : w.drew.grownBy x1 (Value.ownBlock (.slice none 0 0))) (h2 : x1.grownBy x2 v.ownBlock) {a : Addr} {y : Value} (hc : w.cell? a = some y) : x2.cell? a = some y := by
  have hlt := World.block_lt_of_cell? _ _ hc
  refine h2.cell (h1.cell (show w.drew.cell? _ = _ from hc) (by simp [Value.ownBlock])) (fun e => ?_)
  have := (ho.lt _ e.symm).1
  omega

/-- What stands after so many rounds. -/
def lf2 (R : Nat → List Nat) (e : Nat) : Nat → (Nat → List Nat)
  | 0 => R
  | 1 => outR R (2 * e)
  | _ => liftR R e

/-- A store into a variable of the document's turns turns no row. -/
theorem set2_al {w : World} {g : Nat} {u v : Value} (h : w.heap[g]? = some (.cells #[u, v] 76 (0, 0))) (a b : Value) : Al w ((w.setCell ⟨g, 0, none⟩ a).setCell ⟨g, 1, none⟩ b) := fun k hk => by
  have hne : k ≠ g := fun e => by
    subst e
    rcases hk with ⟨cs, fr, hk⟩ | ⟨cs, fr, hk⟩
    · rw [h] at hk
      injection hk with hk
      injection hk with _ hk
      cases hk
    · rw [h] at hk
      injection hk with hk
      injection hk with _ hk
      cases hk
  rw [Below.heap_setCell _ _ _ _ hne, Below.heap_setCell _ _ _ _ hne]

/-- Where the loop stands. -/
def LS (w : World) (E V : Nat) (R : Nat → List Nat) (wr : World) : Prop := ∃ lv, wr.heap[w.heap.size]? = some (.cells #[.int .i64 (E : Int), lv] 76 (0, 0)) ∧ wr.heap[w.heap.size + 1]? = some (.cells #[.int .i64 0, .slice none 0 0] 76 (0, 0)) ∧ NR wr lv V R ∧ Below w.heap.size w wr

theorem results_cell2 {P : Program} {fn : Func} {p u : Tmp} {ty : TypeId} (h : fn.results = #[.cell p ty, .tmp u]) (tmps : Array Value) (w : World) (g : Nat) (t : TypeId) (cs : Array Value) (fr : Nat × Nat) (d : TypeDesc)
    (hp : tmps.getD p undef = .pointer (some ⟨g, 0, none⟩)) (hg : w.heap[g]? = some (.cells cs t fr))
    (hu : P.underlying ty = some d) (hd : (match d with | .struct _ | .array _ _ => true | _ => false) = true) (hi : (P.info? ty).map (·.size) = some cs.size) :
    (results fn tmps).run P w = .ok (.tuple #[.agg cs, tmps.getD u undef]) w := by
  rw [results_cell_tmp h, hp]
  simp [asAddr, run_loadVar_row w g t ty cs fr d hg hu hd hi]



end Go.Proofs.YtboafgimjadboaaGreatDoor
