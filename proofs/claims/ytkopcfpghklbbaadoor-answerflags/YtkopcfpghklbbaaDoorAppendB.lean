/- 'append' of any bytes onto a slice that the call made: one law for the walk, of no program. -/
import Derived.Test.YtkopcfpghklbbaaDoorBytes
import Derived.Laws.AppendOwnNone
namespace Go.Proofs.YtkopcfpghklbbaaDoor
open Go.RowKit

theorem wpList_append_bytes {P : Program} (w : World) {ops : Array Oper} {rest : List Oper} {o : Oper} {a : Act} {Q : Exit → Act → World → Prop} (hgd : o.guard = none) (s x : Operand) (t : TypeId)
    (ho : o.op = .call { callee := .builtin .append, args := #[s, x], argTypes := #[t, t] })
    (base : Nat) (e : TypeId) (i : TypeInfo) (ht : P.underlying t = some (.slice e)) (hi : P.info? e = some i) (hz : i.zero = some (.int .u8 0)) (hsize : i.size = 1) (hby : i.bytes = 1)
    (v : Value) (l : List UInt8) (n : Nat) (hs : a.eval s = v) (hown : w.ownsRow base e 1 v n (l.map bc))
    (ao : Option Addr) (k c : Nat) (m : List UInt8) (hx : a.eval x = .slice ao k c) (hk : k = m.length) (hb : Bytes w ao c m)
    (hlen : n + k ≤ 140737488355328) (hbase : base ≤ w.heap.size)
    (h : ∀ v' w', w'.ownsRow base e 1 v' (n + k) ((l ++ m).map bc) → w.grownBy w' v.ownBlock → wpList P ops Q rest (a.put o.dst v') w') : wpList P ops Q (o :: rest) a w := by
  cases ao with
  | none =>
    have h1 := hb.nil rfl
    have h2 := hb.le
    have h3 : m = [] := List.eq_nil_of_length_eq_zero (by omega)
    subst h1 h3 hk
    exact wpList_append_own_none hgd s x t ho base e i 1 ht hi v n (l.map bc) hs hown hx (h v w (by simpa using hown) (World.grownBy.refl w _))
  | some ad =>
    refine wpList_append_own w hgd s x t ho base e i (.int .u8 0) 1 1 ht hi hz hsize hby rfl (by decide) v n (l.map bc) hs hown ad k c (m.map bc) hx (by simp [hk]) (hb.cell ad rfl) (bc_oneCell m) (by unfold maxLen; omega) (by omega) hbase ?_
    intro v' w' r1 r2 _
    exact h v' w' (by simpa using r1) r2

theorem own_from {w : World} {base e size n : Nat} {v : Value} {xs : List Value} (h : w.ownsRow base e size v n xs) : ∀ k, v.ownBlock = some k → base ≤ k := by
  intro k hk
  rcases h.2 with ⟨rfl, _⟩ | ⟨g, cap, cur, rfl, hg, _⟩
  · simp [Value.ownBlock] at hk
  · simp [Value.ownBlock] at hk
    omega

theorem bc_of (q : Nat) : bc (UInt8.ofNat q) = .int .u8 ((q : Int) % 256) := by
  unfold bc
  congr 1

/-- A slice of one byte that was just laid. -/
theorem ownsRow_one (w : World) (base e q : Nat) (hb : base ≤ w.heap.size) : (w.alloc (.cells #[.int .u8 ((q : Int) % 256)] e)).ownsRow base e 1 (.slice (some ⟨w.heap.size, 0, none⟩) 1 1) 1 ([UInt8.ofNat q].map bc) := by
  refine ⟨by simp, .inr ⟨w.heap.size, 1, #[.int .u8 ((q : Int) % 256)], rfl, hb, ?_, Nat.le_refl _, by unfold maxLen; omega, by simp, by simp [bc_of]⟩⟩
  show (w.heap.push _)[w.heap.size]? = _
  simp

end Go.Proofs.YtkopcfpghklbbaaDoor
