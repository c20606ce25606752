/- The document's Lift, walked. -/
import Derived.Test.YtboafgimjadboaaGreatDoorBdoc
import Derived.Test.YtboafgimjadboaaGreatDoorRegion
namespace Go.Proofs.YtboafgimjadboaaGreatDoor
open Go.RowKit
set_option linter.unusedVariables false

/-- append onto a row of the call's own, as one step of a region that draws. -/
theorem step_append_own {P : Program} {ops : Array Oper} {o : Oper} {a : Act} {w : World} {K : Act → World → Prop} {Q : Exit → Act → World → Prop} {E : Prop}
    (hg : o.guard = none) (s x : Operand) (t : TypeId) (hop : o.op = Op.call { callee := Callee.builtin Builtin.append, args := #[s, x], argTypes := #[t, t] })
    (base : Nat) (e : TypeId) (i : TypeInfo) (z : Value) (size bytes : Nat) (h1 : P.underlying t = some (.slice e)) (h2 : P.info? e = some i) (h3 : i.zero = some z) (h4 : i.size = size) (h5 : i.bytes = bytes) (h6 : z.cells.size = size) (h7 : 0 < size)
    (v : Value) (n : Nat) (xs : List Value) (hs : a.eval s = v) (hown : w.ownsRow base e size v n xs)
    (ad : Addr) (m c : Nat) (news : List Value) (hx : a.eval x = .slice (some ad) m c) (hn : news.length = m * size) (hc : ∀ j u, news[j]? = some u → w.cell? (ad.add j) = some u) (h1c : ∀ u ∈ news, u.oneCell' = true)
    (b1 : n + m ≤ maxLen) (b2 : (n + m) * bytes ≤ 140737488355328) (hb : base ≤ w.heap.size)
    (hK : ∀ v' w', w'.ownsRow base e size v' (n + m) (xs ++ news) → w.grownBy w' v.ownBlock → K (a.put o.dst v') w') :
    if Region.wanted o (yielded ops a.tmps) = true then Oper.wp P o a w K Q else E := by
  have hw : Region.wanted o (yielded ops a.tmps) = true := by simp [Region.wanted, hg]
  rw [if_pos hw]
  obtain ⟨v', w', hrun, r1, r2, _⟩ := run_append_own (P := P) w base t o.type e i z size bytes h1 h2 h3 h4 h5 h6 h7 v n xs hown ad m c news hn hc h1c b1 b2 hb
  unfold Oper.wp
  simp [execOp, hop, resolve, invoke, builtin, hs, hx, hrun, Result.andThen]
  exact hK v' w' r1 r2

theorem ncs_one (l : List Nat) : ∀ u ∈ ncs l, u.oneCell' = true := by
  intro u hu
  obtain ⟨x, _, rfl⟩ := List.mem_map.1 hu
  rfl

theorem wrap_succ (i : Nat) (h : i ≤ 1000) : IntKind.i64.wrap ((i : Int) + 1) = (i : Int) + 1 := by rw [IntKind.wrap_i64]; omega

/-- What lay there before two appends stays. -/
theorem stay {w x1 x2 : World} {n : Nat} {t : TypeId} {size : Nat} {v : Value} {xs : List Value} (ho : x1.ownsRow w.heap.size t size v n xs) (h1 : w.drew.grownBy x1 (Value.ownBlock (.slice none 0 0))) (h2 : x1.grownBy x2 v.ownBlock) {a : Addr} {y : Value} (hc : w.cell? a = some y) : x2.cell? a = some y := by
  have hlt := World.block_lt_of_cell? _ _ hc
  refine h2.cell (h1.cell (show w.drew.cell? _ = _ from hc) (by simp [Value.ownBlock])) (fun e => ?_)
  have := (ho.lt _ e.symm).1
  omega

theorem NR.congr {w : World} {v : Value} {V : Nat} {R R' : Nat → List Nat} (h : NR w v V R) (he : ∀ u, u < V → R u = R' u) : NR w v V R' := by
  obtain ⟨ad, cap, h1, h2, h3, h4⟩ := h
  refine ⟨ad, cap, h1, h2, h3, fun u hu => ?_⟩
  rw [← he u hu]
  exact h4 u hu

theorem erase_at {l : List Nat} {d i : Nat} (hn : l.Nodup) (hi : l[i]? = some d) : l.take i ++ l.drop (i + 1) = l.erase d := by
  obtain ⟨hlt, e⟩ := List.getElem?_eq_some_iff.1 hi
  have hs : l = l.take i ++ d :: l.drop (i + 1) := by
    rw [← e, List.getElem_cons_drop, List.take_append_drop]
  have hd : d ∉ l.take i := fun h => by
    rw [hs] at hn
    exact (List.nodup_append.1 hn).2.2 d h d (by simp) rfl
  have h2 := del_split (B := l.drop (i + 1)) hd
  rw [← hs] at h2
  exact h2.symm

/-- Another list round the vertex where the dart stood: it is out. -/
theorem upd_out {V E : Nat} {R : Nat → List Nat} (h : Tn V E R) {v d : Nat} (hv : v < V) (hd : d ∈ R v) : ∀ u, u < V → upd R v ((R v).erase d) u = outR R d u := fun u hu => by
  by_cases e : u = v
  · subst e; rw [upd_same]; rfl
  · rw [upd_ne e]
    exact (List.erase_of_not_mem (fun hm => e (h.one u v d hu hv hm hd))).symm

/-- What stands after so many rounds. -/
def lf2 (R : Nat → List Nat) (e : Nat) : Nat → (Nat → List Nat)
  | 0 => R
  | 1 => outR R (2 * e)
  | _ => liftR R e

theorem lf2_tn {V E : Nat} {R : Nat → List Nat} {e : Nat} (h : Tn V E R) : ∀ k, Tn V E (lf2 R e k)
  | 0 => h
  | 1 => h.out _
  | _ + 2 => (h.out _).out _

theorem lf2_in {V E : Nat} {R : Nat → List Nat} {e : Nat} (h : Tn V E R) (h0 : In V R (2 * e)) (h1 : In V R (2 * e + 1)) : ∀ k, k < 2 → In V (lf2 R e k) (2 * e + k)
  | 0, _ => h0
  | 1, _ => (In.out h).2 ⟨h1, by omega⟩
  | _ + 2, hk => by omega

theorem lf2_next {R : Nat → List Nat} {e : Nat} : ∀ k, k < 2 → outR (lf2 R e k) (2 * e + k) = lf2 R e (k + 1)
  | 0, _ => rfl
  | 1, _ => rfl
  | _ + 2, hk => by omega

theorem lf2_len {R : Nat → List Nat} {e : Nat} (k u : Nat) (h : (R u).length ≤ 1000) : (lf2 R e k u).length ≤ 1000 := by
  match k with
  | 0 => exact h
  | 1 => exact Nat.le_trans (List.length_erase_le) h
  | _ + 2 => exact Nat.le_trans (List.length_erase_le) (Nat.le_trans (List.length_erase_le) h)

theorem cell_set2 {w : World} {g : Nat} {a : Addr} (h : a.block ≠ g) (x y : Value) : ((w.setCell ⟨g, 0, none⟩ x).setCell ⟨g, 1, none⟩ y).cell? a = w.cell? a := by
  unfold World.cell?
  rw [Below.heap_setCell _ _ _ _ h, Below.heap_setCell _ _ _ _ h]

/-- A store into a variable of the document's turns turns no row. -/
theorem set2_al {w : World} {g : Nat} {u v : Value} (h : w.heap[g]? = some (.cells #[u, v] 76 (0, 0))) (a b : Value) : Al w ((w.setCell ⟨g, 0, none⟩ a).setCell ⟨g, 1, none⟩ b) := fun k hk => by
  have hne : k ≠ g := fun e => by
    subst e
    rcases hk with ⟨cs, fr, hk⟩ | ⟨cs, fr, hk⟩
    · rw [h] at hk
      injection hk with hk
      injection hk with _ hk
      cases hk
    · rw [h] at hk
      injection hk with hk
      injection hk with _ hk
      cases hk
  rw [Below.heap_setCell _ _ _ _ hne, Below.heap_setCell _ _ _ _ hne]

/-- Where the loop stands. -/
def LS (w : World) (E V : Nat) (R : Nat → List Nat) (wr : World) : Prop := ∃ lv, wr.heap[w.heap.size]? = some (.cells #[.int .i64 (E : Int), lv] 76 (0, 0)) ∧ wr.heap[w.heap.size + 1]? = some (.cells #[.int .i64 0, .slice none 0 0] 76 (0, 0)) ∧ NR wr lv V R ∧ Below w.heap.size w wr

theorem results_cell2 {P : Program} {fn : Func} {p u : Tmp} {ty : TypeId} (h : fn.results = #[.cell p ty, .tmp u]) (tmps : Array Value) (w : World) (g : Nat) (t : TypeId) (cs : Array Value) (fr : Nat × Nat) (d : TypeDesc)
    (hp : tmps.getD p undef = .pointer (some ⟨g, 0, none⟩)) (hg : w.heap[g]? = some (.cells cs t fr))
    (hu : P.underlying ty = some d) (hd : (match d with | .struct _ | .array _ _ => true | _ => false) = true) (hi : (P.info? ty).map (·.size) = some cs.size) :
    (results fn tmps).run P w = .ok (.tuple #[.agg cs, tmps.getD u undef]) w := by
  rw [results_cell_tmp h, hp]
  simp [asAddr, run_loadVar_row w g t ty cs fr d hg hu hd hi]



end Go.Proofs.YtboafgimjadboaaGreatDoor
