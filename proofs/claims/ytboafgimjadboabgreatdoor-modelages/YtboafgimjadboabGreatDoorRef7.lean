/- The document's lists, walked: New, Join, Size, Count. -/
import Derived.Test.YtboafgimjadboabGreatDoorBdoc
import Derived.Test.YtboafgimjadboabGreatDoorBunite
import Derived.Deep.AppendLies
import Derived.Deep.CutBlock
namespace Go.Proofs.YtboafgimjadboabGreatDoor.Un
open Go.RowKit
set_option linter.unusedVariables false

/-- The value is a slice of these numbers. -/
def Ls (w : World) (v : Value) (n : Nat) (f : Nat → Nat) : Prop := ∃ b cap, v = .slice (some ⟨b, 0, none⟩) n cap ∧ n ≤ cap ∧ cap ≤ maxLen ∧ ∃ cs fr, w.heap[b]? = some (.cells cs 3 fr) ∧ ∀ j, j < n → w.cell? ⟨b, j, none⟩ = some (.int .i64 (f j : Int))

/-- What is no block of Groups is as it was. -/
def Keep (w w' : World) : Prop := ∀ (k : Nat) (cs : Array Value) (t : TypeId) (fr : Nat × Nat), w.heap[k]? = some (.cells cs t fr) → t ≠ 219 → t ≠ 207 → t ≠ 227 → w'.heap[k]? = some (.cells cs t fr)

theorem Keep.ofBelow {w w' : World} (h : Below w.heap.size w w') : Keep w w' := fun k cs t fr hk _ _ _ => (h.block k (Array.getElem?_eq_some_iff.1 hk).1).trans hk
theorem Keep.trans {a b c : World} (h : Keep a b) (k : Keep b c) : Keep a c := fun i cs t fr hi h1 h2 h3 => k i cs t fr (h i cs t fr hi h1 h2 h3) h1 h2 h3

theorem Ls.block {w w' : World} {v : Value} {n : Nat} {f : Nat → Nat} (h : Ls w v n f) (hb : ∀ (b : Nat) (cs : Array Value) (fr : Nat × Nat), w.heap[b]? = some (Obj.cells cs 3 fr) → w'.heap[b]? = some (Obj.cells cs 3 fr)) : Ls w' v n f := by
  obtain ⟨b, cap, e, h1, h2, cs, fr, h3, h4⟩ := h
  have := hb b cs fr h3
  exact ⟨b, cap, e, h1, h2, cs, fr, this, fun j hj => (World.cell?_of_block (a := ⟨b, j, none⟩) (this.trans h3.symm)).trans (h4 j hj)⟩

theorem Ls.keep {w w' : World} {v : Value} {n : Nat} {f : Nat → Nat} (h : Ls w v n f) (k : Keep w w') : Ls w' v n f := h.block (fun b cs fr hb => k b cs 3 fr hb (by decide) (by decide) (by decide))
theorem Ls.below {w w' : World} {v : Value} {n : Nat} {f : Nat → Nat} (h : Ls w v n f) (k : Below w.heap.size w w') : Ls w' v n f := h.keep (Keep.ofBelow k)

theorem infoInt : (Tryz.prog.info? 3).map (fun i => (i.zero, i.size, i.bytes)) = some (some (.int .i64 0), 1, 8) := by kernel_rfl

/-- Numbers as cells. -/
def ics (f : Nat → Nat) (n : Nat) : List Value := (List.range n).map (fun j => .int .i64 (f j : Int))
theorem ics_succ (f : Nat → Nat) (n : Nat) : ics f (n + 1) = ics f n ++ [.int .i64 (f n : Int)] := by unfold ics; rw [List.range_succ, List.map_append]; rfl

/-- A row of one's own that holds the first numbers. -/
def Lo (lo : Nat) (w : World) (v : Value) (n : Nat) (f : Nat → Nat) : Prop := w.ownsRow lo 3 1 v n (ics f n)

theorem Lo.ls {lo : Nat} {w : World} {v : Value} {n : Nat} {f : Nat → Nat} (h : Lo lo w v n f) (hn : 0 < n) : Ls w v n f := by
  have h' : w.ownsRow lo 3 1 v n (ics f n) := h
  obtain ⟨g, cap, rfl, h1, h2⟩ := own_form h' hn
  refine ⟨g, cap, rfl, h1, h2, ?_⟩
  rcases h'.2 with ⟨e, _⟩ | ⟨g', cap', cur, e, _, hg, _⟩
  · cases e
  · simp only [Value.slice.injEq, Option.some.injEq, Addr.mk.injEq, and_true, true_and] at e
    obtain ⟨rfl, rfl⟩ := e
    refine ⟨cur, (0, 0), hg, fun j hj => ?_⟩
    rw [h'.cellAt j (by omega)]
    unfold ics
    simp [hj]

theorem one_new (w : World) (u : Value) (t : TypeId) : ∀ j x, ([u] : List Value)[j]? = some x → (w.alloc (.cells #[u] t)).cell? ((⟨w.heap.size, 0, none⟩ : Addr).add j) = some x := by
  intro j x hx
  rw [show (⟨w.heap.size, 0, none⟩ : Addr).add j = ⟨w.heap.size, j, none⟩ from by unfold Addr.add; split <;> simp_all]
  have hn := heap_alloc_new w (.cells #[u] t)
  unfold World.cell?
  rw [hn]
  simpa using hx

theorem below_row {w0 w w' : World} {B base n size : Nat} {e : TypeId} {v : Value} {xs : List Value} (hb : Below B w0 w) (hlo : B ≤ w0.heap.size) (ho : w.ownsRow base e size v n xs) (hB : B ≤ base) (hg : w.grownBy w' v.ownBlock) : Below B w0 w' := by
  have ht : Turned (fun j => v.ownBlock = some j) w w' := ⟨hg.os, hg.tape, hg.output, hg.size, fun k hk ho => hg.block k hk (fun e => ho e.symm)⟩
  exact hb.trans (ht.below (fun j hj => Nat.le_trans hB (ho.lt j hj).1) (Nat.le_trans hlo hb.size))



theorem jn_at (f : Nat → Nat) (a b x : Nat) {lo hi : Nat} (h1 : min (f a) (f b) = lo) (h2 : max (f a) (f b) = hi) : jn f a b x = if f x = hi then lo else f x := by unfold jn; rw [h1, h2]





end Go.Proofs.YtboafgimjadboabGreatDoor.Un
