/- Sequences as trees in a table: plain facts, of no program. The nodes in memory; what a call may have turned. 'tally', walked. 'turn' and 'where', walked. 'hang', walked. 'settle', walked. A node lifted over the one above it; one settled: the trees stay trees, the sequences stay: plain facts. What a lift makes of the nodes; settling: plain facts. Trees that nodes move in: what stays: plain facts. A sequence turned, cut, joined; a value set: plain facts. Stretches that hang on one another: the table as it is kept, and the trees in it: plain facts. Trees laid out in stretches: what is hung, turned, linked and cut: plain facts. 'where', walked. 'lift', walked. -/
import Derived.Test.YtdmkbcbgjdmgdaaGreatDoorBpure
import Derived.WalkKit
import Derived.WalkSpells
import Derived.WalkLawsBesides
import Derived.Test.YtdmkbcbgjdmgdaaGreatDoorChecked
import Derived.Deep.RegionHeld3
import Derived.Deep.Cut
namespace Go.Proofs.YtdmkbcbgjdmgdaaGreatDoor.Ct
open Go.RowKit

/-- A node: its value; sum, least, greatest, how many beneath; the one above, the two beneath; is it to be turned? -/
structure Nd where
  v : Int
  s : Int
  lo : Int
  hi : Int
  rest : Int
  up : Nat
  l : Nat
  r : Nat
  t : Bool

def nd0 : Nd := ⟨0, 0, 0, 0, 0, 0, 0, 0, false⟩
def ndN : Nd := ⟨0, 0, 9223372036854775807, -9223372036854775808, -1, 0, 0, 0, false⟩

abbrev Tb := Nat → Nd
def upd (T : Tb) (i : Nat) (x : Nd) : Tb := fun j => if j = i then x else T j
theorem upd_same (T : Tb) (i : Nat) (x : Nd) : upd T i x i = x := if_pos rfl
theorem upd_ne {T : Tb} {i j : Nat} {x : Nd} (h : j ≠ i) : upd T i x j = T j := if_neg h

def Nd.k (n : Nd) (s : Bool) : Nat := if s then n.r else n.l
def Nd.setK (n : Nd) (s : Bool) (k : Nat) : Nd := if s then { n with r := k } else { n with l := k }
theorem setK_k (n : Nd) (s : Bool) (k : Nat) : (n.setK s k).k s = k := by cases s <;> rfl
theorem setK_o (n : Nd) (s : Bool) (k : Nat) : (n.setK s k).k (!s) = n.k (!s) := by cases s <;> rfl
theorem setK_up (n : Nd) (s : Bool) (k : Nat) : (n.setK s k).up = n.up := by cases s <;> rfl
theorem setK_t (n : Nd) (s : Bool) (k : Nat) : (n.setK s k).t = n.t := by cases s <;> rfl
theorem setK_v (n : Nd) (s : Bool) (k : Nat) : (n.setK s k).v = n.v := by cases s <;> rfl
theorem setK_s (n : Nd) (s : Bool) (k : Nat) : (n.setK s k).s = n.s := by cases s <;> rfl
theorem setK_lo (n : Nd) (s : Bool) (k : Nat) : (n.setK s k).lo = n.lo := by cases s <;> rfl
theorem setK_hi (n : Nd) (s : Bool) (k : Nat) : (n.setK s k).hi = n.hi := by cases s <;> rfl
theorem setK_rest (n : Nd) (s : Bool) (k : Nat) : (n.setK s k).rest = n.rest := by cases s <;> rfl

def flp (b : Bool) (l : List Nat) : List Nat := if b then l.reverse else l
def cat (s : Bool) (a : List Nat) (x : Nat) (b : List Nat) : List Nat := if s then b ++ x :: a else a ++ x :: b
theorem cat_cat (s : Bool) (A B C : List Nat) (x p : Nat) : cat s (cat s A x B) p C = cat s A x (cat s B p C) := by cases s <;> simp [cat]
theorem cat_swap (s : Bool) (A B : List Nat) (x : Nat) : cat (!s) A x B = cat s B x A := by cases s <;> simp [cat]
theorem cat_len (s : Bool) (A B : List Nat) (x : Nat) : (cat s A x B).length = A.length + 1 + B.length := by cases s <;> simp [cat] <;> omega
theorem cat_mem (s : Bool) (A B : List Nat) (x y : Nat) : y ∈ cat s A x B ↔ y = x ∨ y ∈ A ∨ y ∈ B := by
  cases s <;> simp [cat] <;> constructor <;> intro h <;> rcases h with h | h | h <;> simp [h]
theorem flp_len (b : Bool) (l : List Nat) : (flp b l).length = l.length := by cases b <;> simp [flp]
theorem flp_mem (b : Bool) (l : List Nat) (y : Nat) : y ∈ flp b l ↔ y ∈ l := by cases b <;> simp [flp]
theorem flp_not (b : Bool) (l : List Nat) : flp (!b) l = (flp b l).reverse := by cases b <;> simp [flp]
theorem nodup_rev (l : List Nat) : l.reverse.Nodup ↔ l.Nodup := by
  unfold List.Nodup
  rw [List.pairwise_reverse]
  constructor <;> exact List.Pairwise.imp (fun h e => h e.symm)
theorem flp_nd (b : Bool) (l : List Nat) : (flp b l).Nodup ↔ l.Nodup := by
  cases b
  · exact Iff.rfl
  · exact nodup_rev l
theorem cat_rev (s : Bool) (A B : List Nat) (x : Nat) : (cat s A x B).reverse = cat s B.reverse x A.reverse := by cases s <;> simp [cat]

/-- What a list comes to. -/
def sumV (v : Nat → Int) : List Nat → Int
  | [] => 0
  | x :: l => v x + sumV v l
def lowV (v : Nat → Int) : List Nat → Int
  | [] => 9223372036854775807
  | x :: l => min (v x) (lowV v l)
def highV (v : Nat → Int) : List Nat → Int
  | [] => -9223372036854775808
  | x :: l => max (v x) (highV v l)

theorem sumV_append (v : Nat → Int) : ∀ a b, sumV v (a ++ b) = sumV v a + sumV v b
  | [], b => by simp [sumV]
  | x :: a, b => by simp [sumV, sumV_append v a b]; omega
theorem lowV_le (v : Nat → Int) : ∀ a, lowV v a ≤ 9223372036854775807
  | [] => by simp [lowV]
  | x :: a => by have := lowV_le v a; simp only [lowV]; omega
theorem highV_ge (v : Nat → Int) : ∀ a, -9223372036854775808 ≤ highV v a
  | [] => by simp [highV]
  | x :: a => by have := highV_ge v a; simp only [highV]; omega
theorem lowV_append (v : Nat → Int) : ∀ a b, lowV v (a ++ b) = min (lowV v a) (lowV v b)
  | [], b => by have := lowV_le v b; simp only [lowV, List.nil_append]; omega
  | x :: a, b => by simp only [lowV, List.cons_append, lowV_append v a b]; omega
theorem highV_append (v : Nat → Int) : ∀ a b, highV v (a ++ b) = max (highV v a) (highV v b)
  | [], b => by have := highV_ge v b; simp only [highV, List.nil_append]; omega
  | x :: a, b => by simp only [highV, List.cons_append, highV_append v a b]; omega
theorem sumV_rev (v : Nat → Int) : ∀ a, sumV v a.reverse = sumV v a
  | [] => rfl
  | x :: a => by rw [List.reverse_cons, sumV_append, sumV_rev v a]; simp [sumV]; omega
theorem lowV_rev (v : Nat → Int) : ∀ a, lowV v a.reverse = lowV v a
  | [] => rfl
  | x :: a => by have := lowV_le v a; rw [List.reverse_cons, lowV_append, lowV_rev v a]; simp only [lowV]; omega
theorem highV_rev (v : Nat → Int) : ∀ a, highV v a.reverse = highV v a
  | [] => rfl
  | x :: a => by have := highV_ge v a; rw [List.reverse_cons, highV_append, highV_rev v a]; simp only [highV]; omega

/-- A node's tallies are those of a list. -/
structure Tal (n : Nd) (v : Nat → Int) (l : List Nat) : Prop where
  rest : n.rest = (l.length : Int) - 1
  s : n.s = wrap64 (sumV v l)
  lo : n.lo = lowV v l
  hi : n.hi = highV v l

theorem Tal.rev {n : Nd} {v : Nat → Int} {l : List Nat} (h : Tal n v l) : Tal n v l.reverse :=
  ⟨by rw [List.length_reverse]; exact h.rest, by rw [sumV_rev]; exact h.s, by rw [lowV_rev]; exact h.lo, by rw [highV_rev]; exact h.hi⟩
theorem Tal.flp {n : Nd} {v : Nat → Int} {l : List Nat} (b : Bool) (h : Tal n v l) : Tal n v (flp b l) := by cases b; exact h; exact h.rev
theorem Tal.of {n m : Nd} {v : Nat → Int} {l : List Nat} (h : Tal n v l) (e1 : m.rest = n.rest) (e2 : m.s = n.s) (e3 : m.lo = n.lo) (e4 : m.hi = n.hi) : Tal m v l :=
  ⟨e1.trans h.rest, e2.trans h.s, e3.trans h.lo, e4.trans h.hi⟩

/-- A number of 32 bits. -/
def w32 (n : Int) : Int := IntKind.i32.wrap n
theorem w32_is (n : Int) : w32 n = (n + 2147483648) % 4294967296 - 2147483648 := IntKind.wrap_i32 n

/-- The least and the greatest of three, as they are found. -/
def mn (x y z : Int) : Int := if z < (if y < x then y else x) then z else (if y < x then y else x)
def mx (x y z : Int) : Int := if (if x < y then y else x) < z then z else (if x < y then y else x)
theorem mn_is (x y z : Int) : mn x y z = min (min x y) z := by unfold mn; split <;> split at * <;> omega
theorem mx_is (x y z : Int) : mx x y z = max (max x y) z := by unfold mx; split <;> split at * <;> omega

/-- What a node and the two beneath come to. -/
def tally (n a b : Nd) : Nd :=
  { n with rest := w32 (w32 (w32 (a.rest + 1) + b.rest) + 1), s := IntKind.i64.wrap (IntKind.i64.wrap (a.s + n.v) + b.s), lo := mn a.lo n.v b.lo, hi := mx a.hi n.v b.hi }

theorem tally_tal {n a b : Nd} {v : Nat → Int} {x : Nat} {A B : List Nat} (hv : n.v = v x) (ha : Tal a v A) (hb : Tal b v B) (hl : A.length + B.length ≤ 1000000000) (s : Bool) : Tal (tally n a b) v (cat s A x B) ∧ Tal (tally n a b) v (cat s B x A) := by
  have key : Tal (tally n a b) v (A ++ x :: B) := by
    have h1 := ha.rest
    have h2 := hb.rest
    have h3 := lowV_le v A
    have h4 := highV_ge v A
    refine ⟨?_, ?_, ?_, ?_⟩
    · simp only [tally, List.length_append, List.length_cons, w32_is]; omega
    · simp only [tally, sumV_append, sumV, ha.s, hb.s, hv, wrap64, IntKind.wrap_i64]; omega
    · simp only [tally, mn_is, lowV_append, lowV, ha.lo, hb.lo, hv]; omega
    · simp only [tally, mx_is, highV_append, highV, ha.hi, hb.hi, hv]; omega
  have key2 : Tal (tally n a b) v (B ++ x :: A) := by
    refine ⟨?_, ?_, ?_, ?_⟩
    · rw [key.rest]; simp; omega
    · rw [key.s]; congr 1; simp only [sumV_append, sumV]; omega
    · rw [key.lo]; simp only [lowV_append, lowV]; omega
    · rw [key.hi]; simp only [highV_append, highV]; omega
  cases s
  · exact ⟨key, key2⟩
  · exact ⟨key2, key⟩

/-- The table as trees: 'sub' what is at a node and beneath it, in order; 'seq' the whole sequence. -/
structure Inv (T : Tb) (v : Nat → Int) (sub seq : Nat → List Nat) : Prop where
  none : T 0 = ndN
  sub0 : sub 0 = []
  eqn : ∀ x, x ≠ 0 → ∀ s, sub x = flp (T x).t (cat s (sub ((T x).k s)) x (sub ((T x).k (!s))))
  upk : ∀ x, x ≠ 0 → ∀ s, (T x).k s ≠ 0 → (T ((T x).k s)).up = x
  kid : ∀ x, x ≠ 0 → (T x).up ≠ 0 → ∃ s, (T (T x).up).k s = x
  nd : ∀ x, (sub x).Nodup
  val : ∀ x, x ≠ 0 → (T x).v = v x
  tal : ∀ x, Tal (T x) v (sub x)
  root : ∀ x, x ≠ 0 → (T x).up = 0 → seq x = sub x
  climb : ∀ x, x ≠ 0 → (T x).up ≠ 0 → seq x = seq (T x).up

variable {T : Tb} {v : Nat → Int} {sub seq : Nat → List Nat}

theorem Inv.len (h : Inv T v sub seq) {x : Nat} (hx : x ≠ 0) (s : Bool) : (sub x).length = (sub ((T x).k s)).length + 1 + (sub ((T x).k (!s))).length := by
  rw [h.eqn x hx s, flp_len, cat_len]

theorem Inv.kid_lt (h : Inv T v sub seq) {x : Nat} (hx : x ≠ 0) (s : Bool) : (sub ((T x).k s)).length < (sub x).length := by
  rw [h.len hx s]; omega

theorem Inv.mem (h : Inv T v sub seq) {x : Nat} (hx : x ≠ 0) (s : Bool) (y : Nat) : y ∈ sub x ↔ y = x ∨ y ∈ sub ((T x).k s) ∨ y ∈ sub ((T x).k (!s)) := by
  rw [h.eqn x hx s, flp_mem, cat_mem]

theorem Inv.self (h : Inv T v sub seq) {x : Nat} (hx : x ≠ 0) : x ∈ sub x := (h.mem hx false x).2 (Or.inl rfl)

theorem Inv.up_lt (h : Inv T v sub seq) {x : Nat} (hx : x ≠ 0) (hu : (T x).up ≠ 0) : (sub x).length < (sub (T x).up).length := by
  obtain ⟨s, hs⟩ := h.kid x hx hu
  have := h.kid_lt hu s
  rw [hs] at this
  exact this

theorem Inv.kid_ne (h : Inv T v sub seq) {x : Nat} (hx : x ≠ 0) (s : Bool) : (T x).k s ≠ x := fun e => by
  have := h.kid_lt hx s; rw [e] at this; omega

/-- The two beneath are not the same. -/
theorem Inv.kids (h : Inv T v sub seq) {x : Nat} (hx : x ≠ 0) (s : Bool) (hk : (T x).k s ≠ 0) : (T x).k (!s) ≠ (T x).k s := fun e => by
  have hn := h.nd x
  rw [h.eqn x hx s, flp_nd, e] at hn
  have hm := h.self hk
  cases s
  · simp only [cat, Bool.false_eq_true, ↓reduceIte, List.nodup_append] at hn
    exact hn.2.2 _ hm _ (List.mem_cons_of_mem _ hm) rfl
  · simp only [cat, ↓reduceIte, List.nodup_append] at hn
    exact hn.2.2 _ hm _ (List.mem_cons_of_mem _ hm) rfl

theorem Inv.up0 (h : Inv T v sub seq) : (T 0).up = 0 := by rw [h.none]; rfl

/-- What is beneath a node is of its sequence, and has one above it. -/
theorem Inv.within (h : Inv T v sub seq) : ∀ (n x : Nat), (sub x).length ≤ n → x ≠ 0 → ∀ y, y ∈ sub x → y ≠ 0 ∧ seq y = seq x ∧ (y ≠ x → (T y).up ≠ 0)
  | 0, x, hn, hx, y, hy => by have := List.length_pos_of_mem hy; omega
  | n + 1, x, hn, hx, y, hy => by
    rcases (h.mem hx false y).1 hy with rfl | hy | hy
    · exact ⟨hx, rfl, fun e => absurd rfl e⟩
    all_goals
      have hk : ∀ s, y ∈ sub ((T x).k s) → y ≠ 0 ∧ seq y = seq x ∧ (y ≠ x → (T y).up ≠ 0) := by
        intro s hy
        have hz : (T x).k s ≠ 0 := fun e => by rw [e, h.sub0] at hy; cases hy
        have hup := h.upk x hx s hz
        obtain ⟨h1, h2, h3⟩ := h.within n _ (by have := h.kid_lt hx s; omega) hz y hy
        refine ⟨h1, h2.trans ((h.climb _ hz (by rw [hup]; exact hx)).trans (by rw [hup])), fun _ => ?_⟩
        by_cases e : y = (T x).k s
        · rw [e, hup]; exact hx
        · exact h3 e
      exact hk _ hy

theorem Inv.sub_seq (h : Inv T v sub seq) {x y : Nat} (hx : x ≠ 0) (hy : y ∈ sub x) : seq y = seq x := (h.within _ x (Nat.le_refl _) hx y hy).2.1
theorem Inv.sub_up (h : Inv T v sub seq) {x y : Nat} (hx : x ≠ 0) (hy : y ∈ sub x) (hne : y ≠ x) : (T y).up ≠ 0 := (h.within _ x (Nat.le_refl _) hx y hy).2.2 hne
theorem Inv.sub_ne (h : Inv T v sub seq) {x y : Nat} (hx : x ≠ 0) (hy : y ∈ sub x) : y ≠ 0 := (h.within _ x (Nat.le_refl _) hx y hy).1

/-- A sequence is what is beneath its top. -/
theorem Inv.top (h : Inv T v sub seq) {B : Nat} (hB : ∀ x, (sub x).length ≤ B) : ∀ (n x : Nat), B - (sub x).length ≤ n → x ≠ 0 → ∃ r, r ≠ 0 ∧ (T r).up = 0 ∧ seq x = sub r ∧ x ∈ sub r ∧ (∀ y, y ∈ sub x → y ∈ sub r)
  | n, x, hn, hx => by
    by_cases hu : (T x).up = 0
    · exact ⟨x, hx, hu, h.root x hx hu, h.self hx, fun _ e => e⟩
    · have hlt := h.up_lt hx hu
      have := hB (T x).up
      cases n with
      | zero => omega
      | succ n =>
        obtain ⟨r, h1, h2, h3, h4, h5⟩ := h.top hB n (T x).up (by omega) hu
        obtain ⟨s, hs⟩ := h.kid x hx hu
        have hin : ∀ y, y ∈ sub x → y ∈ sub (T x).up := fun y hy => (h.mem hu s y).2 (Or.inr (Or.inl (by rw [hs]; exact hy)))
        exact ⟨r, h1, h2, (h.climb x hx hu).trans h3, h5 _ (hin _ (h.self hx)), fun y hy => h5 y (hin y hy)⟩

/-- On which side of the one above a node is. -/
def whr (T : Tb) (x : Nat) : Bool := decide ((T (T x).up).r = x)

theorem Inv.onSide (h : Inv T v sub seq) {x : Nat} (hx : x ≠ 0) (hu : (T x).up ≠ 0) : (T (T x).up).k (whr T x) = x := by
  obtain ⟨s, hs⟩ := h.kid x hx hu
  by_cases e : (T (T x).up).r = x
  · have : whr T x = true := decide_eq_true e
    rw [this]; exact e
  · have hw : whr T x = false := decide_eq_false e
    rw [hw]
    cases s with
    | false => exact hs
    | true => exact absurd hs e

end Go.Proofs.YtdmkbcbgjdmgdaaGreatDoor.Ct

namespace Go.Proofs.YtdmkbcbgjdmgdaaGreatDoor.Ct
open Go.RowKit

theorem hid {p : Prop} (h : p) : Hid p := h

/-- Outside the blocks of S all is as it was; new blocks may have come. -/
structure Turned (S : Nat → Prop) (w w' : World) : Prop where
  os : w'.os = w.os
  tape : w'.tape = w.tape
  output : w'.output = w.output
  size : w.heap.size ≤ w'.heap.size
  block : ∀ k, k < w.heap.size → ¬ S k → w'.heap[k]? = w.heap[k]?

theorem Turned.refl (S : Nat → Prop) (w : World) : Turned S w w := ⟨rfl, rfl, rfl, Nat.le_refl _, fun _ _ _ => rfl⟩

theorem Turned.trans {S : Nat → Prop} {a b c : World} (h : Turned S a b) (k : Turned S b c) : Turned S a c :=
  ⟨k.os.trans h.os, k.tape.trans h.tape, k.output.trans h.output, Nat.le_trans h.size k.size, fun i hi h1 => (k.block i (Nat.lt_of_lt_of_le hi h.size) h1).trans (h.block i hi h1)⟩

/-- What came new in the meantime may turn too. -/
theorem Turned.then {S S' : Nat → Prop} {a b c : World} (h : Turned S a b) (k : Turned S' b c) (hs : ∀ i, i < a.heap.size → S' i → S i) : Turned S a c :=
  ⟨k.os.trans h.os, k.tape.trans h.tape, k.output.trans h.output, Nat.le_trans h.size k.size, fun i hi h1 => (k.block i (Nat.lt_of_lt_of_le hi h.size) (fun e => h1 (hs i hi e))).trans (h.block i hi h1)⟩

theorem Turned.mono {S S' : Nat → Prop} {w w' : World} (h : Turned S w w') (hs : ∀ k, S k → S' k) : Turned S' w w' :=
  ⟨h.os, h.tape, h.output, h.size, fun k hk ho => h.block k hk (fun e => ho (hs k e))⟩

theorem Turned.ofBelow {w w' : World} (h : Below w.heap.size w w') (S : Nat → Prop) : Turned S w w' := ⟨h.os, h.tape, h.output, h.size, fun k hk _ => h.block k hk⟩

theorem Turned.below {S : Nat → Prop} {B : Nat} {w w' : World} (h : Turned S w w') (h1 : ∀ k, S k → B ≤ k) (h2 : B ≤ w.heap.size) : Below B w w' :=
  ⟨h.os, h.tape, h.output, h.size, fun k hk => h.block k (by omega) (fun e => by have := h1 k e; omega)⟩

theorem Turned.drew {S : Nat → Prop} {a w : World} (h : Turned S a w) : Turned S a w.drew := ⟨h.os, h.tape, h.output, h.size, h.block⟩

theorem Turned.setCell {S : Nat → Prop} {a w : World} (h : Turned S a w) {p : Addr} (hp : S p.block) (u : Value) : Turned S a (w.setCell p u) :=
  h.trans ⟨rfl, rfl, rfl, by simp [World.setCell], fun k hk ho => Below.heap_setCell _ _ _ _ (fun e => ho (e ▸ hp))⟩

theorem Turned.alloc {S : Nat → Prop} {a w : World} (h : Turned S a w) (o : Obj) : Turned S a (w.alloc o) :=
  h.trans ⟨rfl, rfl, rfl, by simp, fun k hk _ => Below.heap_alloc _ _ _ hk⟩

theorem Turned.cell {S : Nat → Prop} {w w' : World} (h : Turned S w w') {p : Addr} {v : Value} (hc : w.cell? p = some v) (ho : ¬ S p.block) : w'.cell? p = some v :=
  (World.cell?_of_block (h.block p.block (World.block_lt_of_cell? w p hc) ho)).trans hc

/-- A node's cells. -/
def nc (n : Nd) : List Value := [.int .i64 n.v, .int .i64 n.s, .int .i64 n.lo, .int .i64 n.hi, .int .i32 n.rest, .int .i32 (n.up : Int), .int .i32 (n.l : Int), .int .i32 (n.r : Int), .bool n.t]

def flat (T : Tb) : Nat → List Value
  | 0 => []
  | N + 1 => flat T N ++ nc (T N)

theorem flat_length (T : Tb) : ∀ N, (flat T N).length = N * 9
  | 0 => rfl
  | N + 1 => by simp [flat, flat_length T N, nc]; omega

theorem flat_congr {T T' : Tb} : ∀ {N : Nat}, (∀ i, i < N → T i = T' i) → flat T N = flat T' N
  | 0, _ => rfl
  | N + 1, h => by simp only [flat]; rw [flat_congr (fun i hi => h i (by omega)), h N (by omega)]

theorem flat_get (T : Tb) : ∀ (N i k : Nat), i < N → k < 9 → (flat T N)[i * 9 + k]? = (nc (T i))[k]?
  | 0, i, k, hi, _ => by omega
  | N + 1, i, k, hi, hk => by
    unfold flat
    by_cases e : i = N
    · subst e
      rw [List.getElem?_append_right (by rw [flat_length]; omega), flat_length]
      congr 1; omega
    · rw [List.getElem?_append_left (by rw [flat_length]; omega)]
      exact flat_get T N i k (by omega) hk

theorem flat_set {T : Tb} {i k : Nat} {u : Value} {n' : Nd} (hk : k < 9) (hn : nc n' = (nc (T i)).set k u) : ∀ (N : Nat), i < N → (flat T N).set (i * 9 + k) u = flat (upd T i n') N
  | 0, hi => by omega
  | N + 1, hi => by
    unfold flat
    by_cases e : i = N
    · subst e
      rw [List.set_append_right _ _ (by rw [flat_length]; omega), flat_length, upd_same, hn, flat_congr (T := upd T i n') (T' := T) (fun j hj => upd_ne (by omega))]
      congr 2; omega
    · rw [List.set_append_left _ _ (by rw [flat_length]; omega), flat_set hk hn N (by omega), upd_ne (by omega)]

/-- The Forest at fb: n items, N nodes, in the block nb. -/
structure Fo (w : World) (fb nb n N : Nat) (T : Tb) : Prop where
  self : w.heap[fb]? = some (.cells #[.int .i64 (n : Int), .slice (some ⟨nb, 0, none⟩) N N] 105 (0, 0))
  nodes : w.heap[nb]? = some (.cells (flat T N).toArray 101 (0, 0))
  big : N ≤ 8388609

theorem Fo.ne {w : World} {fb nb n N : Nat} {T : Tb} (h : Fo w fb nb n N T) : fb ≠ nb := fun e => by
  have h1 := h.self
  rw [e, h.nodes] at h1
  injection h1 with h1
  injection h1 with _ h1
  cases h1

theorem Fo.lt {w : World} {fb nb n N : Nat} {T : Tb} (h : Fo w fb nb n N T) : fb < w.heap.size ∧ nb < w.heap.size :=
  ⟨(Array.getElem?_eq_some_iff.1 h.self).1, (Array.getElem?_eq_some_iff.1 h.nodes).1⟩

theorem Fo.c0 {w : World} {fb nb n N : Nat} {T : Tb} (h : Fo w fb nb n N T) : w.cell? ⟨fb, 0, none⟩ = some (.int .i64 (n : Int)) := by
  unfold World.cell?; rw [h.self]; simp
theorem Fo.c1 {w : World} {fb nb n N : Nat} {T : Tb} (h : Fo w fb nb n N T) : w.cell? ⟨fb, 1, none⟩ = some (.slice (some ⟨nb, 0, none⟩) N N) := by
  unfold World.cell?; rw [h.self]; simp
theorem Fo.f1 {w : World} {fb nb n N : Nat} {T : Tb} (h : Fo w fb nb n N T) : w.frozen? ⟨fb, 1, none⟩ = false := by
  unfold World.frozen?; rw [h.self]; simp

theorem Fo.at {w : World} {fb nb n N : Nat} {T : Tb} (h : Fo w fb nb n N T) {i k : Nat} (hi : i < N) (hk : k < 9) : w.cell? ⟨nb, i * 9 + k, none⟩ = (nc (T i))[k]? := by
  unfold World.cell?; rw [h.nodes]; simp [flat_get T N i k hi hk]
theorem Fo.fro {w : World} {fb nb n N : Nat} {T : Tb} (h : Fo w fb nb n N T) (j : Nat) : w.frozen? ⟨nb, j, none⟩ = false := by
  unfold World.frozen?; rw [h.nodes]; simp

section
variable {w : World} {fb nb n N : Nat} {T : Tb} (h : Fo w fb nb n N T) {i : Nat} (hin : i < N)
include h hin
theorem Fo.v : w.cell? ⟨nb, i * 9, none⟩ = some (.int .i64 (T i).v) := h.at (k := 0) hin (by decide)
theorem Fo.s : w.cell? ⟨nb, i * 9 + 1, none⟩ = some (.int .i64 (T i).s) := h.at (k := 1) hin (by decide)
theorem Fo.lo : w.cell? ⟨nb, i * 9 + 2, none⟩ = some (.int .i64 (T i).lo) := h.at (k := 2) hin (by decide)
theorem Fo.hi : w.cell? ⟨nb, i * 9 + 3, none⟩ = some (.int .i64 (T i).hi) := h.at (k := 3) hin (by decide)
theorem Fo.rest : w.cell? ⟨nb, i * 9 + 4, none⟩ = some (.int .i32 (T i).rest) := h.at (k := 4) hin (by decide)
theorem Fo.up : w.cell? ⟨nb, i * 9 + 5, none⟩ = some (.int .i32 ((T i).up : Int)) := h.at (k := 5) hin (by decide)
theorem Fo.l : w.cell? ⟨nb, i * 9 + 6, none⟩ = some (.int .i32 ((T i).l : Int)) := h.at (k := 6) hin (by decide)
theorem Fo.r : w.cell? ⟨nb, i * 9 + 7, none⟩ = some (.int .i32 ((T i).r : Int)) := h.at (k := 7) hin (by decide)
theorem Fo.t : w.cell? ⟨nb, i * 9 + 8, none⟩ = some (.bool (T i).t) := h.at (k := 8) hin (by decide)
end

theorem Fo.set {w : World} {fb nb n N : Nat} {T : Tb} (h : Fo w fb nb n N T) {i : Nat} (k : Nat) {u : Value} (n' : Nd) (hi : i < N) (hk : k < 9) (hn : nc n' = (nc (T i)).set k u) :
    Fo (w.setCell ⟨nb, i * 9 + k, none⟩ u) fb nb n N (upd T i n') := by
  refine ⟨(Below.heap_setCell _ _ _ _ h.ne).trans h.self, ?_, h.big⟩
  unfold World.setCell
  rw [Array.getElem?_modify, if_pos rfl, h.nodes]
  simp only [Option.map_some, Option.some.injEq]
  rw [← flat_set hk hn N hi]
  simp

theorem Fo.drew {w : World} {fb nb n N : Nat} {T : Tb} (h : Fo w fb nb n N T) : Fo w.drew fb nb n N T := ⟨h.self, h.nodes, h.big⟩

theorem Fo.of {w w' : World} {S : Nat → Prop} {fb nb n N : Nat} {T : Tb} (h : Fo w fb nb n N T) (hw : Turned S w w') (h1 : ¬ S fb) (h2 : ¬ S nb) : Fo w' fb nb n N T :=
  ⟨(hw.block _ h.lt.1 h1).trans h.self, (hw.block _ h.lt.2 h2).trans h.nodes, h.big⟩

theorem Fo.congr {w : World} {fb nb n N : Nat} {T T' : Tb} (h : Fo w fb nb n N T) (e : ∀ i, i < N → T i = T' i) : Fo w fb nb n N T' :=
  ⟨h.self, by rw [← flat_congr e]; exact h.nodes, h.big⟩

end Go.Proofs.YtdmkbcbgjdmgdaaGreatDoor.Ct

namespace Go.Proofs.YtdmkbcbgjdmgdaaGreatDoor.Ct
open Go.RowKit

theorem far {w : World} {b o o' : Nat} {u : Value} (h : ¬ o' = o) : (w.setCell ⟨b, o, none⟩ u).cell? ⟨b, o', none⟩ = w.cell? ⟨b, o', none⟩ :=
  World.cell?_setCell_other _ _ _ _ (fun e => h (congrArg Addr.off e).symm)

theorem kdrew (w : World) (a : Addr) : w.drew.cell? a = w.cell? a := rfl

theorem kfar {w : World} {b x y k : Nat} {u z : Value} (h : y ≠ x) (hc : w.cell? ⟨b, y * 9 + k, none⟩ = some u) : (w.setCell ⟨b, x * 9 + k, none⟩ z).drew.cell? ⟨b, y * 9 + k, none⟩ = some u := by
  rw [kdrew, far (by omega)]; exact hc

theorem kfar0 {w : World} {b x k : Nat} {u z : Value} (hk : k ≠ 0) (hc : w.cell? ⟨b, x * 9, none⟩ = some u) : (w.setCell ⟨b, x * 9 + k, none⟩ z).drew.cell? ⟨b, x * 9, none⟩ = some u := by
  rw [kdrew, far (by omega)]; exact hc

theorem upd_self (T : Tb) (i : Nat) : upd T i (T i) = T := by
  funext j; unfold upd; split
  · next e => rw [e]
  · rfl

theorem upd_upd (T : Tb) (i : Nat) (a b : Nd) : upd (upd T i a) i b = upd T i b := by
  funext j; unfold upd; split <;> rfl

theorem Fo.set2 {w : World} {fb nb n N : Nat} {T : Tb} {a : Nd} {i : Nat} (h : Fo w fb nb n N (upd T i a)) (k : Nat) {u : Value} (b : Nd) (hi : i < N) (hk : k < 9) (hn : nc b = (nc a).set k u) :
    Fo (w.setCell ⟨nb, i * 9 + k, none⟩ u) fb nb n N (upd T i b) := by
  have := h.set k b hi hk (by rw [upd_same]; exact hn)
  rw [upd_upd] at this
  exact this

theorem Fo.far {w : World} {fb nb n N : Nat} {T : Tb} {a : Nd} {i j k : Nat} (h : Fo w fb nb n N (upd T i a)) (hj : j < N) (hk : k < 9) (hne : j ≠ i) : w.cell? ⟨nb, j * 9 + k, none⟩ = (nc (T j))[k]? := by
  have := h.at hj hk
  rw [upd_ne hne] at this
  exact this

theorem Fo.own {w : World} {fb nb n N : Nat} {T : Tb} {a : Nd} {i k : Nat} (h : Fo w fb nb n N (upd T i a)) (hi : i < N) (hk : k < 9) : w.cell? ⟨nb, i * 9 + k, none⟩ = (nc a)[k]? := by
  have := h.at hi hk
  rw [upd_same] at this
  exact this

set_option maxRecDepth 100000 in
set_option maxHeartbeats 4000000 in
theorem tally_ok (fb nb n N x : Nat) (T : Tb) (w : World) (h : Fo w fb nb n N T) (hx : x < N) (hl : (T x).l < N) (hr : (T x).r < N) (hlx : (T x).l ≠ x) (hrx : (T x).r ≠ x) :
    Calls Tryz.prog 93 #[.pointer (some ⟨fb, 0, none⟩), .int .i32 (x : Int)] w fun e w' => e = .returned (.tuple #[]) ∧ Fo w' fb nb n N (upd T x (tally (T x) (T (T x).l) (T (T x).r))) ∧ Turned (fun k => k = nb) w w' := by
  have hbig := h.big
  have c1 := h.c1
  have cl := h.l hx
  have cr := h.r hx
  have hT : Fo w fb nb n N (upd T x (T x)) := by rw [upd_self]; exact h
  obtain ⟨X, hX⟩ : ∃ X, T x = X := ⟨_, rfl⟩
  obtain ⟨L, hL⟩ : ∃ L, (T x).l = L := ⟨_, rfl⟩
  obtain ⟨R, hR⟩ : ∃ R, (T x).r = R := ⟨_, rfl⟩
  rw [hL] at cl hl hlx
  rw [hR] at cr hr hrx
  have hL' := hid hL
  have hR' := hid hR
  have q1 : (0 : Int) ≤ (L : Int) := by omega
  have q2 : (L : Int) < (N : Int) := by omega
  have q3 : (0 : Int) ≤ (R : Int) := by omega
  have q4 : (R : Int) < (N : Int) := by omega
  clear hL hR
  go_enter Tryz.func93, Tryz.ntmps93
  go_wp2_with fail
  go_region_held3 (fun w' => w'.cell? ⟨fb, 1, none⟩ = some (.slice (some ⟨nb, 0, none⟩) N N) ∧ w'.cell? ⟨nb, x * 9 + 6, none⟩ = some (.int .i32 (L : Int)) ∧ w'.cell? ⟨nb, x * 9 + 7, none⟩ = some (.int .i32 (R : Int))) (go_keep) (fail)
  go_wp2_with fail
  have hA : Hid (∀ k, k < 9 → ∀ (y : World) (c : Nd), Fo y fb nb n N (upd T x c) → y.cell? ⟨nb, L * 9 + k, none⟩ = (nc (T L))[k]?) := fun k hk y c hy => hy.far hl hk hlx
  have hB : Hid (∀ k, k < 9 → ∀ (y : World) (c : Nd), Fo y fb nb n N (upd T x c) → y.cell? ⟨nb, R * 9 + k, none⟩ = (nc (T R))[k]?) := fun k hk y c hy => hy.far hr hk hrx
  rw [hX] at hT
  obtain ⟨A, hAe⟩ : ∃ A, T L = A := ⟨_, rfl⟩
  obtain ⟨B, hBe⟩ : ∃ B, T R = B := ⟨_, rfl⟩
  rw [hAe] at hA
  rw [hBe] at hB
  have hXe := hid hX
  have hAeh := hid hAe
  have hBeh := hid hBe
  clear hX hAe hBe
  have t0 : Turned (fun k => k = nb) w w.drew := (Turned.refl _ _).drew
  have h0 := hid hT.drew
  generalize w.drew = w0 at h0 t0 ⊢
  have t0 := hid t0
  clear h hT c1 cl cr
  have ca : w0.cell? ⟨nb, L * 9 + 4, none⟩ = some (.int .i32 A.rest) := hA.out 4 (by decide) _ _ h0.out
  have cb : w0.cell? ⟨nb, R * 9 + 4, none⟩ = some (.int .i32 B.rest) := hB.out 4 (by decide) _ _ h0.out
  have cx : w0.cell? ⟨nb, x * 9 + 4, none⟩ = some (.int .i32 X.rest) := h0.out.own hx (k := 4) (by decide)
  have fx := h0.out.fro (x * 9 + 4)
  go_wp2_with fail
  go_region_held3 (fun w' => w'.cell? ⟨nb, L * 9 + 4, none⟩ = some (.int .i32 A.rest) ∧ w'.cell? ⟨nb, R * 9 + 4, none⟩ = some (.int .i32 B.rest)) (first | exact ⟨kfar hlx ca, kfar hrx cb⟩ | go_keep) (fail)
  have h1 := hid ((h0.out.set2 4 (u := (.int .i32 (IntKind.i32.wrap (IntKind.i32.wrap (IntKind.i32.wrap (A.rest + 1) + B.rest) + 1)))) ({ X with rest := w32 (w32 (w32 (A.rest + 1) + B.rest) + 1) }) hx (by decide) rfl).drew)
  have t1 := hid (t0.out.trans (((Turned.refl (fun k => k = nb) w0).setCell (p := ⟨nb, x * 9 + 4, none⟩) rfl (.int .i32 (IntKind.i32.wrap (IntKind.i32.wrap (IntKind.i32.wrap (A.rest + 1) + B.rest) + 1)))).drew))
  generalize (w0.setCell ⟨nb, x * 9 + 4, none⟩ (.int .i32 (IntKind.i32.wrap (IntKind.i32.wrap (IntKind.i32.wrap (A.rest + 1) + B.rest) + 1)))).drew = w1 at h1 t1 ⊢
  clear ca cb cx fx h0 t0
  have ca : w1.cell? ⟨nb, L * 9 + 1, none⟩ = some (.int .i64 A.s) := hA.out 1 (by decide) _ _ h1.out
  have cb : w1.cell? ⟨nb, R * 9 + 1, none⟩ = some (.int .i64 B.s) := hB.out 1 (by decide) _ _ h1.out
  have cx : w1.cell? ⟨nb, x * 9 + 1, none⟩ = some (.int .i64 X.s) := h1.out.own hx (k := 1) (by decide)
  have cv : w1.cell? ⟨nb, x * 9, none⟩ = some (.int .i64 X.v) := h1.out.own hx (k := 0) (by decide)
  have fx := h1.out.fro (x * 9 + 1)
  go_wp2_with fail
  go_region_held3 (fun w' => w'.cell? ⟨nb, L * 9 + 1, none⟩ = some (.int .i64 A.s) ∧ w'.cell? ⟨nb, R * 9 + 1, none⟩ = some (.int .i64 B.s) ∧ w'.cell? ⟨nb, x * 9, none⟩ = some (.int .i64 X.v)) (first | exact ⟨kfar hlx ca, kfar hrx cb, kfar0 (by decide) cv⟩ | go_keep) (fail)
  have h2 := hid ((h1.out.set2 1 (u := (.int .i64 (IntKind.i64.wrap (IntKind.i64.wrap (A.s + X.v) + B.s)))) ({ X with rest := w32 (w32 (w32 (A.rest + 1) + B.rest) + 1), s := IntKind.i64.wrap (IntKind.i64.wrap (A.s + X.v) + B.s) }) hx (by decide) rfl).drew)
  have t2 := hid (t1.out.trans (((Turned.refl (fun k => k = nb) w1).setCell (p := ⟨nb, x * 9 + 1, none⟩) rfl (.int .i64 (IntKind.i64.wrap (IntKind.i64.wrap (A.s + X.v) + B.s)))).drew))
  generalize (w1.setCell ⟨nb, x * 9 + 1, none⟩ (.int .i64 (IntKind.i64.wrap (IntKind.i64.wrap (A.s + X.v) + B.s)))).drew = w2 at h2 t2 ⊢
  clear ca cb cx fx h1 t1 cv
  have ca : w2.cell? ⟨nb, L * 9 + 2, none⟩ = some (.int .i64 A.lo) := hA.out 2 (by decide) _ _ h2.out
  have cb : w2.cell? ⟨nb, R * 9 + 2, none⟩ = some (.int .i64 B.lo) := hB.out 2 (by decide) _ _ h2.out
  have cx : w2.cell? ⟨nb, x * 9 + 2, none⟩ = some (.int .i64 X.lo) := h2.out.own hx (k := 2) (by decide)
  have cv : w2.cell? ⟨nb, x * 9, none⟩ = some (.int .i64 X.v) := h2.out.own hx (k := 0) (by decide)
  have fx := h2.out.fro (x * 9 + 2)
  go_wp2_with fail
  go_region_held3 (fun w' => w'.cell? ⟨nb, L * 9 + 2, none⟩ = some (.int .i64 A.lo) ∧ w'.cell? ⟨nb, R * 9 + 2, none⟩ = some (.int .i64 B.lo) ∧ w'.cell? ⟨nb, x * 9, none⟩ = some (.int .i64 X.v)) (first | exact ⟨kfar hlx ca, kfar hrx cb, kfar0 (by decide) cv⟩ | go_keep) (fail)
  rw [show (if B.lo < (if X.v < A.lo then X.v else A.lo) then B.lo else (if X.v < A.lo then X.v else A.lo)) = mn A.lo X.v B.lo from rfl]
  have h3 := hid ((h2.out.set2 2 (u := (.int .i64 (mn A.lo X.v B.lo))) ({ X with rest := w32 (w32 (w32 (A.rest + 1) + B.rest) + 1), s := IntKind.i64.wrap (IntKind.i64.wrap (A.s + X.v) + B.s), lo := mn A.lo X.v B.lo }) hx (by decide) rfl).drew)
  have t3 := hid (t2.out.trans (((Turned.refl (fun k => k = nb) w2).setCell (p := ⟨nb, x * 9 + 2, none⟩) rfl (.int .i64 (mn A.lo X.v B.lo))).drew))
  generalize (w2.setCell ⟨nb, x * 9 + 2, none⟩ (.int .i64 (mn A.lo X.v B.lo))).drew = w3 at h3 t3 ⊢
  clear ca cb cx fx h2 t2 cv
  have ca : w3.cell? ⟨nb, L * 9 + 3, none⟩ = some (.int .i64 A.hi) := hA.out 3 (by decide) _ _ h3.out
  have cb : w3.cell? ⟨nb, R * 9 + 3, none⟩ = some (.int .i64 B.hi) := hB.out 3 (by decide) _ _ h3.out
  have cx : w3.cell? ⟨nb, x * 9 + 3, none⟩ = some (.int .i64 X.hi) := h3.out.own hx (k := 3) (by decide)
  have cv : w3.cell? ⟨nb, x * 9, none⟩ = some (.int .i64 X.v) := h3.out.own hx (k := 0) (by decide)
  have fx := h3.out.fro (x * 9 + 3)
  go_wp2_with fail
  go_region_held3 (fun w' => w'.cell? ⟨nb, L * 9 + 3, none⟩ = some (.int .i64 A.hi) ∧ w'.cell? ⟨nb, R * 9 + 3, none⟩ = some (.int .i64 B.hi) ∧ w'.cell? ⟨nb, x * 9, none⟩ = some (.int .i64 X.v)) (first | exact ⟨kfar hlx ca, kfar hrx cb, kfar0 (by decide) cv⟩ | go_keep) (fail)
  rw [show (if (if A.hi < X.v then X.v else A.hi) < B.hi then B.hi else (if A.hi < X.v then X.v else A.hi)) = mx A.hi X.v B.hi from rfl]
  have h4 := hid ((h3.out.set2 3 (u := (.int .i64 (mx A.hi X.v B.hi))) (tally X A B) hx (by decide) rfl).drew)
  have t4 := hid (t3.out.trans (((Turned.refl (fun k => k = nb) w3).setCell (p := ⟨nb, x * 9 + 3, none⟩) rfl (.int .i64 (mx A.hi X.v B.hi))).drew))
  generalize (w3.setCell ⟨nb, x * 9 + 3, none⟩ (.int .i64 (mx A.hi X.v B.hi))).drew = w4 at h4 t4 ⊢
  clear ca cb cx fx h3 t3 cv
  go_wp2_with fail
  go_end0
  rw [hL'.out, hR'.out, hXe.out, hAeh.out, hBeh.out]
  exact ⟨rfl, h4.out, t4.out⟩

end Go.Proofs.YtdmkbcbgjdmgdaaGreatDoor.Ct

namespace Go.Proofs.YtdmkbcbgjdmgdaaGreatDoor.Ct
open Go.RowKit

/-- What 'turn' makes of the table. -/
def turnT (T : Tb) (x : Nat) : Tb := if x = 0 then T else upd T x { T x with t := !(T x).t }

set_option maxRecDepth 100000 in
set_option maxHeartbeats 4000000 in
theorem turn_ok (fb nb n N x : Nat) (T : Tb) (w : World) (h : Fo w fb nb n N T) (hx : x < N) :
    Calls Tryz.prog 125 #[.pointer (some ⟨fb, 0, none⟩), .int .i32 (x : Int)] w fun e w' => e = .returned (.tuple #[]) ∧ Fo w' fb nb n N (turnT T x) ∧ Turned (fun k => k = nb) w w' := by
  have hbig := h.big
  by_cases h0 : x = 0
  · subst h0
    go_enter Tryz.func125, Tryz.ntmps125
    go_wp2_with fail
    go_end0
    exact ⟨rfl, h, Turned.refl _ _⟩
  · have c1 := h.c1
    have ct := h.t hx
    have ft := h.fro (x * 9 + 8)
    have q1 : (0 : Int) ≤ (x : Int) := by omega
    have q2 : (x : Int) < (N : Int) := by omega
    have q3 : ((x : Int) != 0) = true := by simp; omega
    have hh := hid h
    have h0h := hid h0
    have hne := hid h.ne
    obtain ⟨b, hb⟩ : ∃ b, (T x).t = b := ⟨_, rfl⟩
    rw [hb] at ct
    have hbh := hid hb
    clear h hb h0
    have hk : Hid (∀ u, (w.setCell ⟨nb, x * 9 + 8, none⟩ u).drew.cell? ⟨fb, 1, none⟩ = some (.slice (some ⟨nb, 0, none⟩) N N)) := fun u => by
      rw [kdrew, World.cell?_setCell_far _ _ _ _ (fun e => hne.out e.symm)]; exact hh.out.c1
    go_enter Tryz.func125, Tryz.ntmps125
    go_wp2_with fail
    go_region
    all_goals
      go_wp2_with fail
      go_end0
      refine ⟨rfl, ?_, ?_⟩
      · unfold turnT
        rw [if_neg h0h.out]
        exact (hh.out.set 8 { T x with t := !(T x).t } hx (by decide) (by rw [hbh.out]; rfl)).drew
      · exact ((Turned.refl (fun k => k = nb) w).setCell (p := ⟨nb, x * 9 + 8, none⟩) rfl _).drew

/-- A side as a number. -/
def sI (s : Bool) : Int := if s then 1 else 0

end Go.Proofs.YtdmkbcbgjdmgdaaGreatDoor.Ct

namespace Go.Proofs.YtdmkbcbgjdmgdaaGreatDoor.Ct
open Go.RowKit

/-- A tree put beneath a node. -/
def putT (T : Tb) (x : Nat) (s : Bool) (k : Nat) : Tb := if k = 0 then upd T x ((T x).setK s k) else upd (upd T x ((T x).setK s k)) k { T k with up := x }
def tallyT (T : Tb) (x : Nat) : Tb := upd T x (tally (T x) (T (T x).l) (T (T x).r))
def hangT (T : Tb) (x : Nat) (s : Bool) (k : Nat) : Tb := tallyT (putT T x s k) x

theorem putT_x {T : Tb} {x k : Nat} {s : Bool} (h : k ≠ x) : putT T x s k x = (T x).setK s k := by
  unfold putT
  split
  · rw [upd_same]
  · rw [upd_ne h.symm, upd_same]

set_option maxRecDepth 100000 in
set_option maxHeartbeats 1000000 in
theorem hang_l (fb nb n N x k : Nat) (T : Tb) (w : World) (h : Fo w fb nb n N T) (hx : x < N) (hk : k < N) (hkx : k ≠ x)
    (hput : Hid (∀ y, Fo y fb nb n N (putT T x false k) → Calls Tryz.prog 93 #[.pointer (some ⟨fb, 0, none⟩), .int .i32 (x : Int)] y fun e w' => e = .returned (.tuple #[]) ∧ Fo w' fb nb n N (hangT T x false k) ∧ Turned (fun k => k = nb) y w')) :
    Calls Tryz.prog 115 #[.pointer (some ⟨fb, 0, none⟩), .int .i32 (x : Int), .int .i64 0, .int .i32 (k : Int)] w fun e w' => e = .returned (.tuple #[]) ∧ Fo w' fb nb n N (hangT T x false k) ∧ Turned (fun k => k = nb) w w' := by
  have hbig := h.big
  have c1 := h.c1
  have q1 : (0 : Int) ≤ (x : Int) := by omega
  have q2 : (x : Int) < (N : Int) := by omega
  have q3 : (0 : Int) ≤ (k : Int) := by omega
  have q4 : (k : Int) < (N : Int) := by omega
  have hc : w.cell? ⟨nb, x * 9 + 6, none⟩ = some (.int .i32 ((T x).k false : Int)) := h.at hx (k := 6) (by decide)
  have f6 : w.frozen? ⟨nb, x * 9 + 6, none⟩ = false := h.fro _
  have hs := hid (h.set 6 ((T x).setK false k) (u := .int .i32 (k : Int)) hx (by decide) rfl)
  have ts := hid ((Turned.refl (fun k => k = nb) w).setCell (p := ⟨nb, x * 9 + 6, none⟩) rfl (.int .i32 (k : Int)))
  clear h
  go_enter Tryz.func115, Tryz.ntmps115
  go_upto_region 1 with fail
  rw [show x * 9 + 6 = x * 9 + 6 from rfl] at hs
  generalize w.setCell ⟨nb, x * 9 + 6, none⟩ (.int .i32 (k : Int)) = w1 at hs ts ⊢
  clear hc f6 c1
  by_cases hk0 : k = 0
  · subst hk0
    go_wp2_with fail
    refine (hput.out _ (by unfold putT; rw [if_pos rfl]; exact hs.out)).mono ?_
    rintro e w' ⟨rfl, h2, t2⟩
    go_wp2_with fail
    go_end0
    exact ⟨rfl, h2, ts.out.trans t2⟩
  · have t1 : ((k : Int) != 0) = true := by simp; omega
    have g1 := hs.out.c1
    have g3 : w1.cell? ⟨nb, k * 9 + 5, none⟩ = some (.int .i32 ((T k).up : Int)) := hs.out.far hk (k := 5) (by decide) hkx
    have g5 := hs.out.fro (k * 9 + 5)
    have hs2 : Hid (Fo (w1.setCell ⟨nb, k * 9 + 5, none⟩ (.int .i32 (x : Int))) fb nb n N (putT T x false k)) := hid (by
      unfold putT
      rw [if_neg hk0]
      exact hs.out.set 5 { T k with up := x } hk (by decide) (by rw [upd_ne hkx]; rfl))
    have ts2 := hid (ts.out.setCell (p := ⟨nb, k * 9 + 5, none⟩) rfl (.int .i32 (x : Int)))
    clear hk0
    go_upto_region 3 with fail
    generalize w1.setCell ⟨nb, k * 9 + 5, none⟩ (.int .i32 (x : Int)) = w2 at hs2 ts2 ⊢
    clear g1 g3 g5 hs ts
    go_wp2_with fail
    refine (hput.out _ hs2.out).mono ?_
    rintro e w' ⟨rfl, h2, t2⟩
    go_wp2_with fail
    go_end0
    exact ⟨rfl, h2, ts2.out.trans t2⟩

set_option maxRecDepth 100000 in
set_option maxHeartbeats 1000000 in
theorem hang_r (fb nb n N x k : Nat) (T : Tb) (w : World) (h : Fo w fb nb n N T) (hx : x < N) (hk : k < N) (hkx : k ≠ x)
    (hput : Hid (∀ y, Fo y fb nb n N (putT T x true k) → Calls Tryz.prog 93 #[.pointer (some ⟨fb, 0, none⟩), .int .i32 (x : Int)] y fun e w' => e = .returned (.tuple #[]) ∧ Fo w' fb nb n N (hangT T x true k) ∧ Turned (fun k => k = nb) y w')) :
    Calls Tryz.prog 115 #[.pointer (some ⟨fb, 0, none⟩), .int .i32 (x : Int), .int .i64 1, .int .i32 (k : Int)] w fun e w' => e = .returned (.tuple #[]) ∧ Fo w' fb nb n N (hangT T x true k) ∧ Turned (fun k => k = nb) w w' := by
  have hbig := h.big
  have c1 := h.c1
  have q1 : (0 : Int) ≤ (x : Int) := by omega
  have q2 : (x : Int) < (N : Int) := by omega
  have q3 : (0 : Int) ≤ (k : Int) := by omega
  have q4 : (k : Int) < (N : Int) := by omega
  have hc : w.cell? ⟨nb, x * 9 + 6 + 1, none⟩ = some (.int .i32 ((T x).k true : Int)) := h.at hx (k := 7) (by decide)
  have f6 : w.frozen? ⟨nb, x * 9 + 6 + 1, none⟩ = false := h.fro _
  have hs := hid (h.set 7 ((T x).setK true k) (u := .int .i32 (k : Int)) hx (by decide) rfl)
  have ts := hid ((Turned.refl (fun k => k = nb) w).setCell (p := ⟨nb, x * 9 + 6 + 1, none⟩) rfl (.int .i32 (k : Int)))
  clear h
  go_enter Tryz.func115, Tryz.ntmps115
  go_upto_region 1 with fail
  rw [show x * 9 + 7 = x * 9 + 6 + 1 from rfl] at hs
  generalize w.setCell ⟨nb, x * 9 + 6 + 1, none⟩ (.int .i32 (k : Int)) = w1 at hs ts ⊢
  clear hc f6 c1
  by_cases hk0 : k = 0
  · subst hk0
    go_wp2_with fail
    refine (hput.out _ (by unfold putT; rw [if_pos rfl]; exact hs.out)).mono ?_
    rintro e w' ⟨rfl, h2, t2⟩
    go_wp2_with fail
    go_end0
    exact ⟨rfl, h2, ts.out.trans t2⟩
  · have t1 : ((k : Int) != 0) = true := by simp; omega
    have g1 := hs.out.c1
    have g3 : w1.cell? ⟨nb, k * 9 + 5, none⟩ = some (.int .i32 ((T k).up : Int)) := hs.out.far hk (k := 5) (by decide) hkx
    have g5 := hs.out.fro (k * 9 + 5)
    have hs2 : Hid (Fo (w1.setCell ⟨nb, k * 9 + 5, none⟩ (.int .i32 (x : Int))) fb nb n N (putT T x true k)) := hid (by
      unfold putT
      rw [if_neg hk0]
      exact hs.out.set 5 { T k with up := x } hk (by decide) (by rw [upd_ne hkx]; rfl))
    have ts2 := hid (ts.out.setCell (p := ⟨nb, k * 9 + 5, none⟩) rfl (.int .i32 (x : Int)))
    clear hk0
    go_upto_region 3 with fail
    generalize w1.setCell ⟨nb, k * 9 + 5, none⟩ (.int .i32 (x : Int)) = w2 at hs2 ts2 ⊢
    clear g1 g3 g5 hs ts
    go_wp2_with fail
    refine (hput.out _ hs2.out).mono ?_
    rintro e w' ⟨rfl, h2, t2⟩
    go_wp2_with fail
    go_end0
    exact ⟨rfl, h2, ts2.out.trans t2⟩

theorem hang_ok (fb nb n N x k : Nat) (s : Bool) (T : Tb) (w : World) (h : Fo w fb nb n N T) (hx : x < N) (hk : k < N) (hkx : k ≠ x) (ho : (T x).k (!s) < N) (hox : (T x).k (!s) ≠ x) :
    Calls Tryz.prog 115 #[.pointer (some ⟨fb, 0, none⟩), .int .i32 (x : Int), .int .i64 (sI s), .int .i32 (k : Int)] w fun e w' => e = .returned (.tuple #[]) ∧ Fo w' fb nb n N (hangT T x s k) ∧ Turned (fun k => k = nb) w w' := by
  have hput : Hid (∀ y, Fo y fb nb n N (putT T x s k) → Calls Tryz.prog 93 #[.pointer (some ⟨fb, 0, none⟩), .int .i32 (x : Int)] y fun e w' => e = .returned (.tuple #[]) ∧ Fo w' fb nb n N (hangT T x s k) ∧ Turned (fun k => k = nb) y w') := fun y hy => by
    have e := putT_x (T := T) (s := s) hkx
    have hl : (putT T x s k x).l < N ∧ (putT T x s k x).r < N ∧ (putT T x s k x).l ≠ x ∧ (putT T x s k x).r ≠ x := by
      rw [e]
      cases s
      · exact ⟨hk, ho, hkx, hox⟩
      · exact ⟨ho, hk, hox, hkx⟩
    exact tally_ok fb nb n N x _ y hy hx hl.1 hl.2.1 hl.2.2.1 hl.2.2.2
  cases s
  · exact hang_l fb nb n N x k T w h hx hk hkx hput
  · exact hang_r fb nb n N x k T w h hx hk hkx hput

end Go.Proofs.YtdmkbcbgjdmgdaaGreatDoor.Ct

namespace Go.Proofs.YtdmkbcbgjdmgdaaGreatDoor.Ct
open Go.RowKit

/-- What 'settle' makes of the table. -/
def swapN (n : Nd) : Nd := { n with t := false, l := n.r, r := n.l }
def settleT (T : Tb) (x : Nat) : Tb := if (T x).t then turnT (turnT (upd T x (swapN (T x))) (T x).r) (T x).l else T

theorem turnT_l (T : Tb) (x y : Nat) : (turnT T y x).l = (T x).l ∧ (turnT T y x).r = (T x).r := by
  unfold turnT upd
  split
  · exact ⟨rfl, rfl⟩
  · dsimp only
    split
    · next e => subst e; exact ⟨rfl, rfl⟩
    · exact ⟨rfl, rfl⟩

set_option maxRecDepth 100000 in
set_option maxHeartbeats 1000000 in
theorem settle_ok (fb nb n N x : Nat) (T : Tb) (w : World) (h : Fo w fb nb n N T) (hx : x < N) (hl : (T x).l < N) (hr : (T x).r < N) :
    Calls Tryz.prog 120 #[.pointer (some ⟨fb, 0, none⟩), .int .i32 (x : Int)] w fun e w' => e = .returned (.tuple #[]) ∧ Fo w' fb nb n N (settleT T x) ∧ Turned (fun k => k = nb) w w' := by
  have hbig := h.big
  have c1 := h.c1
  have ct := h.t hx
  have q1 : (0 : Int) ≤ (x : Int) := by omega
  have q2 : (x : Int) < (N : Int) := by omega
  by_cases ht : (T x).t = false
  · rw [ht] at ct
    have hth := hid ht
    have hh := hid h
    clear h ht hl hr
    go_enter Tryz.func120, Tryz.ntmps120
    go_wp2_with fail
    first | go_end0 | refine bodyPost_ret (results_none rfl _ _ _) rfl ?_
    refine ⟨rfl, ?_, Turned.refl _ _⟩
    unfold settleT
    rw [hth.out]
    exact hh.out
  · have ht : (T x).t = true := by simpa using ht
    rw [ht] at ct
    have hth := hid ht
    have ft := h.fro (x * 9 + 8)
    have hs := hid (h.set 8 { T x with t := false } (u := .bool false) hx (by decide) rfl)
    have ts := hid ((Turned.refl (fun k => k = nb) w).setCell (p := ⟨nb, x * 9 + 8, none⟩) rfl (.bool false))
    obtain ⟨L, hL⟩ : ∃ L, (T x).l = L := ⟨_, rfl⟩
    obtain ⟨R, hR⟩ : ∃ R, (T x).r = R := ⟨_, rfl⟩
    rw [hL] at hl
    rw [hR] at hr
    have hfin : Hid (settleT T x = turnT (turnT (upd T x (swapN (T x))) R) L) := hid (by unfold settleT; rw [ht, hL, hR]; rfl)
    have hLR := hid (And.intro hL hR)
    clear h ht hL hR
    go_enter Tryz.func120, Tryz.ntmps120
    go_upto_region 3 with fail
    generalize w.setCell ⟨nb, x * 9 + 8, none⟩ (.bool false) = w1 at hs ts ⊢
    have g6 : w1.cell? ⟨nb, x * 9 + 6, none⟩ = some (.int .i32 (L : Int)) := by have := hs.out.own hx (k := 6) (by decide); rw [← hLR.out.1]; exact this
    have g7 : w1.cell? ⟨nb, x * 9 + 6 + 1, none⟩ = some (.int .i32 (R : Int)) := by have := hs.out.own hx (k := 7) (by decide); rw [← hLR.out.2]; exact this
    have g9 := hs.out.fro (x * 9 + 6)
    have g10 : w1.frozen? ⟨nb, x * 9 + 6 + 1, none⟩ = false := hs.out.fro (x * 9 + 7)
    clear c1 ct ft
    go_region
    have hs1 := hs.out.set2 6 { T x with t := false, l := (T x).r } (u := .int .i32 (R : Int)) hx (by decide) (by rw [← hLR.out.2]; rfl)
    have hs2 : Fo ((w1.setCell ⟨nb, x * 9 + 6, none⟩ (.int .i32 (R : Int))).setCell ⟨nb, x * 9 + 6 + 1, none⟩ (.int .i32 (L : Int))).drew fb nb n N (upd T x (swapN (T x))) := (hs1.set2 7 (swapN (T x)) hx (by decide) (by rw [← hLR.out.1]; rfl)).drew
    have ts2 := ((ts.out.setCell (p := ⟨nb, x * 9 + 6, none⟩) rfl (.int .i32 (R : Int))).setCell (p := ⟨nb, x * 9 + 6 + 1, none⟩) rfl (.int .i32 (L : Int))).drew
    have hs2 := hid hs2
    have ts2 := hid ts2
    generalize ((w1.setCell ⟨nb, x * 9 + 6, none⟩ (.int .i32 (R : Int))).setCell ⟨nb, x * 9 + 6 + 1, none⟩ (.int .i32 (L : Int))).drew = w2 at hs2 ts2 ⊢
    clear g6 g7 g9 g10 hs hs1 ts
    have g6 : w2.cell? ⟨nb, x * 9 + 6, none⟩ = some (.int .i32 (R : Int)) := by have := hs2.out.own hx (k := 6) (by decide); rw [← hLR.out.2]; exact this
    go_wp2_with fail
    refine (turn_ok fb nb n N R _ _ hs2.out hr).mono ?_
    rintro e w3 ⟨rfl, h3, t3⟩
    have h3h := hid h3
    have t3h := hid (ts2.out.trans t3)
    have g7 : w3.cell? ⟨nb, x * 9 + 6 + 1, none⟩ = some (.int .i32 (L : Int)) := by
      have := h3.r hx
      rw [(turnT_l _ x R).2, upd_same] at this
      rw [← hLR.out.1]
      exact this
    clear h3 t3 g6 hs2 ts2
    go_wp2_with fail
    refine (turn_ok fb nb n N L _ _ h3h.out hl).mono ?_
    rintro e w4 ⟨rfl, h4, t4⟩
    go_wp2_with fail
    go_end0
    exact ⟨rfl, by rw [hfin.out]; exact h4, t3h.out.trans t4⟩

end Go.Proofs.YtdmkbcbgjdmgdaaGreatDoor.Ct

namespace Go.Proofs.YtdmkbcbgjdmgdaaGreatDoor.Ct
open Go.RowKit

variable {T T' : Tb} {v : Nat → Int} {sub seq : Nat → List Nat}

theorem cat_nd {s : Bool} {A B : List Nat} {x : Nat} (h : (cat s A x B).Nodup) : A.Nodup ∧ B.Nodup := by
  cases s
  · simp only [cat, Bool.false_eq_true, ↓reduceIte, List.nodup_append, List.nodup_cons] at h
    exact ⟨h.1, h.2.1.2⟩
  · simp only [cat, ↓reduceIte, List.nodup_append, List.nodup_cons] at h
    exact ⟨h.2.1.2, h.1⟩

/-- One side suffices. -/
theorem eqn_side {sub : Nat → List Nat} {n : Nd} {x : Nat} {l : List Nat} (s : Bool) (h : l = flp n.t (cat s (sub (n.k s)) x (sub (n.k (!s))))) : ∀ s, l = flp n.t (cat s (sub (n.k s)) x (sub (n.k (!s)))) := by
  intro s'
  rw [h]
  by_cases e : s' = s
  · rw [e]
  · have : s' = !s := by cases s <;> cases s' <;> simp_all
    rw [this, cat_swap, Bool.not_not]

/-- What a lift makes of the nodes x, p, b, g. -/
structure Lifted (T T' : Tb) (v : Nat → Int) (sub : Nat → List Nat) (x p b g : Nat) (s : Bool) : Prop where
  xs : (T' x).k s = (T x).k s
  xo : (T' x).k (!s) = p
  xu : (T' x).up = g
  xt : (T' x).t = (T x).t
  xv : (T' x).v = (T x).v
  xl : Tal (T' x) v (cat s (sub ((T x).k s)) x (cat s (sub b) p (sub ((T p).k (!s)))))
  ps : (T' p).k s = b
  po : (T' p).k (!s) = (T p).k (!s)
  pu : (T' p).up = x
  pt : (T' p).t = (T p).t
  pv : (T' p).v = (T p).v
  pl : Tal (T' p) v (cat s (sub b) p (sub ((T p).k (!s))))
  kb : b ≠ 0 → T' b = { T b with up := p }
  kg : g ≠ 0 → T' g = (T g).setK (whr T p) x
  ko : ∀ y, y ≠ x → y ≠ p → (b ≠ 0 → y ≠ b) → (g ≠ 0 → y ≠ g) → T' y = T y

theorem Inv.rot (h : Inv T v sub seq) {x p b g : Nat} {s : Bool} (hx : x ≠ 0) (hp : p ≠ 0) (ep : (T x).up = p) (es : (T p).k s = x) (eb : (T x).k (!s) = b) (eg : (T p).up = g) (tx : (T x).t = false) (tp : (T p).t = false) (hL : Lifted T T' v sub x p b g s) :
    Inv T' v (fun y => if y = x then sub p else if y = p then cat s (sub b) p (sub ((T p).k (!s))) else sub y) seq := by
  obtain ⟨a, ea⟩ : ∃ a, (T x).k s = a := ⟨_, rfl⟩
  obtain ⟨c, ec⟩ : ∃ c, (T p).k (!s) = c := ⟨_, rfl⟩
  have lxp : (sub x).length < (sub p).length := by have := h.kid_lt hp s; rw [es] at this; exact this
  have lbx : (sub b).length < (sub x).length := by have := h.kid_lt hx (!s); rw [eb] at this; exact this
  have lax : (sub a).length < (sub x).length := by have := h.kid_lt hx s; rw [ea] at this; exact this
  have lcp : (sub c).length < (sub p).length := by have := h.kid_lt hp (!s); rw [ec] at this; exact this
  have lpg : g ≠ 0 → (sub p).length < (sub g).length := fun hg => by have := h.up_lt hp (by rw [eg]; exact hg); rw [eg] at this; exact this
  have ub : b ≠ 0 → (T b).up = x := fun hb => by have := h.upk x hx (!s) (by rw [eb]; exact hb); rw [eb] at this; exact this
  have ua : a ≠ 0 → (T a).up = x := fun ha => by have := h.upk x hx s (by rw [ea]; exact ha); rw [ea] at this; exact this
  have uc : c ≠ 0 → (T c).up = p := fun hc => by have := h.upk p hp (!s) (by rw [ec]; exact hc); rw [ec] at this; exact this
  have nxp : x ≠ p := fun e => by rw [e] at lxp; omega
  have nbx : b ≠ x := fun e => by rw [e] at lbx; omega
  have nbp : b ≠ p := fun e => by rw [e] at lbx; omega
  have nax : a ≠ x := fun e => by rw [e] at lax; omega
  have nap : a ≠ p := fun e => by rw [e] at lax; omega
  have ncp : c ≠ p := fun e => by rw [e] at lcp; omega
  have ncx : c ≠ x := fun e => by have := h.kids hp s (by rw [es]; exact hx); rw [ec, es] at this; exact this e
  have ngx : g ≠ 0 → g ≠ x := fun hg e => by have := lpg hg; rw [e] at this; omega
  have ngp : g ≠ 0 → g ≠ p := fun hg e => by have := lpg hg; rw [e] at this; omega
  have ngb : g ≠ 0 → g ≠ b := fun hg e => by have := lpg hg; rw [e] at this; omega
  have nab : a ≠ 0 → a ≠ b := fun ha e => by have := h.kids hx s (by rw [ea]; exact ha); rw [ea, eb] at this; exact this e.symm
  have ekt : g ≠ 0 → (T g).k (whr T p) = p := fun hg => by have := h.onSide hp (by rw [eg]; exact hg); rw [eg] at this; exact this
  have sx : seq x = seq p := by have := h.climb x hx (by rw [ep]; exact hp); rw [ep] at this; exact this
  have sp : g ≠ 0 → seq p = seq g := fun hg => by have := h.climb p hp (by rw [eg]; exact hg); rw [eg] at this; exact this
  have sb : b ≠ 0 → seq b = seq x := fun hb => by have := h.climb b hb (by rw [ub hb]; exact hx); rw [ub hb] at this; exact this
  obtain ⟨hxs, hxo, hxu, hxt, hxv, hxl, hps, hpo, hpu, hpt, hpv, hpl, hb, hg, ho⟩ := hL
  rw [ea] at hxs hxl
  rw [ec] at hpo hxl hpl
  generalize hsub : (fun y => if y = x then sub p else if y = p then cat s (sub b) p (sub ((T p).k (!s))) else sub y) = sub'
  have s1 : sub' x = sub p := by rw [← hsub]; simp
  have s2 : sub' p = cat s (sub b) p (sub c) := by rw [← hsub, ec]; simp [nxp.symm]
  have s3 : ∀ y, y ≠ x → y ≠ p → sub' y = sub y := fun y h1 h2 => by rw [← hsub]; simp [h1, h2]
  clear hsub
  have epp : sub p = cat s (sub x) p (sub c) := by have := h.eqn p hp s; rw [tp, es, ec] at this; exact this
  have exx : sub x = cat s (sub a) x (sub b) := by have := h.eqn x hx s; rw [tx, ea, eb] at this; exact this
  have key : sub p = cat s (sub a) x (cat s (sub b) p (sub c)) := by rw [epp, exx, cat_cat]
  -- the five sorts of nodes
  have five : ∀ y, y = x ∨ y = p ∨ (b ≠ 0 ∧ y = b) ∨ (g ≠ 0 ∧ y = g) ∨ (T' y = T y ∧ y ≠ x ∧ y ≠ p ∧ (b ≠ 0 → y ≠ b) ∧ (g ≠ 0 → y ≠ g)) := by
    intro y
    by_cases h1 : y = x
    · exact Or.inl h1
    · by_cases h2 : y = p
      · exact Or.inr (Or.inl h2)
      · by_cases h3 : b ≠ 0 ∧ y = b
        · exact Or.inr (Or.inr (Or.inl h3))
        · by_cases h4 : g ≠ 0 ∧ y = g
          · exact Or.inr (Or.inr (Or.inr (Or.inl h4)))
          · have e3 : b ≠ 0 → y ≠ b := fun hb e => h3 ⟨hb, e⟩
            have e4 : g ≠ 0 → y ≠ g := fun hg e => h4 ⟨hg, e⟩
            exact Or.inr (Or.inr (Or.inr (Or.inr ⟨ho y h1 h2 e3 e4, h1, h2, e3, e4⟩)))
  have h0 : T' 0 = T 0 := ho 0 (Ne.symm hx) (Ne.symm hp) (fun hb e => hb e.symm) (fun hg e => hg e.symm)
  refine ⟨h0.trans h.none, by rw [s3 0 (Ne.symm hx) (Ne.symm hp)]; exact h.sub0, fun y hy => ?_, fun y hy s0 hk => ?_, fun y hy hu => ?_, fun y => ?_, fun y hy => ?_, fun y => ?_, fun y hy hu => ?_, fun y hy hu => ?_⟩
  · -- eqn
    rcases five y with rfl | rfl | ⟨hb0, rfl⟩ | ⟨hg0, rfl⟩ | ⟨e, n1, n2, n3, n4⟩
    · refine eqn_side s ?_
      rw [hxt, tx, hxs, hxo, s1, s2, s3 a nax nap, key]; rfl
    · refine eqn_side s ?_
      rw [hpt, tp, hps, hpo, s2, s3 b nbx nbp, s3 c ncx ncp]; rfl
    · rw [hb hb0]
      show ∀ s0, sub' y = flp (T y).t (cat s0 (sub' ((T y).k s0)) y (sub' ((T y).k (!s0))))
      intro s0
      have hk : ∀ s1, sub' ((T y).k s1) = sub ((T y).k s1) := fun s1 => s3 _ (fun e => by have := h.kid_lt hb0 s1; rw [e] at this; omega) (fun e => by have := h.kid_lt hb0 s1; rw [e] at this; omega)
      rw [s3 y nbx nbp, hk, hk]
      exact h.eqn y hb0 s0
    · rw [hg hg0]
      refine eqn_side (whr T p) ?_
      rw [setK_t, setK_k, setK_o, s1, s3 y (ngx hg0) (ngp hg0)]
      have no : (T y).k (!whr T p) ≠ p := fun e => by have := h.kids hg0 (whr T p) (by rw [ekt hg0]; exact hp); rw [ekt hg0] at this; exact this e
      have nx : (T y).k (!whr T p) ≠ x := fun e => by
        have := h.upk y hg0 (!whr T p) (by rw [e]; exact hx)
        rw [e, ep] at this
        exact ngp hg0 this.symm
      rw [s3 _ nx no]
      have := h.eqn y hg0 (whr T p)
      rw [ekt hg0] at this
      exact this
    · intro s0
      have hk : ∀ s1, sub' ((T y).k s1) = sub ((T y).k s1) := fun s1 => s3 _
        (fun e' => by have := h.upk y hy s1 (by rw [e']; exact hx); rw [e', ep] at this; exact n2 this.symm)
        (fun e' => by
          have := h.upk y hy s1 (by rw [e']; exact hp)
          rw [e', eg] at this
          by_cases hg0 : g = 0
          · exact hy (this.symm.trans hg0)
          · exact n4 hg0 this.symm)
      rw [e, s3 y n1 n2, hk, hk]
      exact h.eqn y hy s0
  · -- upk
    have sm : ∀ d, d ≠ x → d ≠ p → (b ≠ 0 → d ≠ b) → (T' d).up = (T d).up := fun d d1 d2 d3 => by
      by_cases hd : g ≠ 0 ∧ d = g
      · rw [hd.2, hg hd.1, setK_up]
      · rw [ho d d1 d2 d3 (fun hg0 e => hd ⟨hg0, e⟩)]
    rcases five y with rfl | rfl | ⟨hb0, rfl⟩ | ⟨hg0, rfl⟩ | ⟨e, n1, n2, n3, n4⟩
    · by_cases e : s0 = s
      · rw [e, hxs] at hk ⊢
        rw [sm a nax nap (fun _ => nab hk), ua hk]
      · have : s0 = !s := by cases s <;> cases s0 <;> simp_all
        rw [this, hxo]; exact hpu
    · by_cases e : s0 = s
      · rw [e, hps] at hk ⊢
        rw [hb hk]
      · have : s0 = !s := by cases s <;> cases s0 <;> simp_all
        rw [this, hpo] at hk ⊢
        rw [sm c ncx ncp (fun hb0 e => by have := ub hb0; rw [← e, uc hk] at this; exact nxp this.symm), uc hk]
    · rw [hb hb0] at hk ⊢
      have hk' : (T y).k s0 ≠ 0 := hk
      have hlt := h.kid_lt hb0 s0
      show (T' ((T y).k s0)).up = y
      rw [sm _ (fun e => by rw [e] at hlt; omega) (fun e => by rw [e] at hlt; omega) (fun _ => h.kid_ne hb0 s0)]
      exact h.upk y hb0 s0 hk'
    · rw [hg hg0] at hk ⊢
      by_cases e : s0 = whr T p
      · rw [e, setK_k]; exact hxu
      · have e2 : s0 = !whr T p := by cases hw : whr T p <;> cases s0 <;> simp_all
        rw [e2, setK_o] at hk ⊢
        have hu := h.upk y hg0 _ hk
        have n1 : (T y).k (!whr T p) ≠ p := fun e => by have := h.kids hg0 (whr T p) (by rw [ekt hg0]; exact hp); rw [ekt hg0] at this; exact this e
        have n2 : (T y).k (!whr T p) ≠ x := fun e => by rw [e, ep] at hu; exact ngp hg0 hu.symm
        rw [sm _ n2 n1 (fun hb0 e => by rw [e, ub hb0] at hu; exact ngx hg0 hu.symm)]
        exact hu
    · rw [e] at hk ⊢
      have hu := h.upk y hy s0 hk
      have m1 : (T y).k s0 ≠ x := fun e' => by rw [e', ep] at hu; exact n2 hu.symm
      have m2 : (T y).k s0 ≠ p := fun e' => by
        rw [e', eg] at hu
        by_cases hg0 : g = 0
        · exact hy (hu.symm.trans hg0)
        · exact n4 hg0 hu.symm
      rw [sm _ m1 m2 (fun hb0 e' => by rw [e', ub hb0] at hu; exact n1 hu.symm)]
      exact hu
  · -- kid
    rcases five y with rfl | rfl | ⟨hb0, rfl⟩ | ⟨hg0, rfl⟩ | ⟨e, n1, n2, n3, n4⟩
    · rw [hxu] at hu ⊢
      exact ⟨whr T p, by rw [hg hu, setK_k]⟩
    · rw [hpu]; exact ⟨!s, hxo⟩
    · rw [hb hb0]; exact ⟨s, hps⟩
    · rw [hg hg0, setK_up] at hu ⊢
      have hl := h.up_lt hg0 hu
      have := lpg hg0
      rw [ho (T y).up (fun e => by rw [e] at hl; omega) (fun e => by rw [e] at hl; omega) (fun _ e => by rw [e] at hl; omega) (fun _ e => by rw [e] at hl; omega)]
      exact h.kid y hg0 hu
    · rw [e] at hu ⊢
      obtain ⟨s1, hs1⟩ := h.kid y hy hu
      rcases five (T y).up with hu1 | hu1 | ⟨hb0, hu1⟩ | ⟨hg0, hu1⟩ | ⟨e2, _⟩
      · rw [hu1] at hs1 ⊢
        by_cases e1 : s1 = s
        · exact ⟨s, by rw [hxs, ← hs1, e1, ea]⟩
        · have : s1 = !s := by cases s <;> cases s1 <;> simp_all
          rw [this, eb] at hs1
          exact absurd hs1.symm (n3 (by rw [hs1]; exact hy))
      · rw [hu1] at hs1 ⊢
        by_cases e1 : s1 = s
        · rw [e1, es] at hs1; exact absurd hs1.symm n1
        · have : s1 = !s := by cases s <;> cases s1 <;> simp_all
          exact ⟨!s, by rw [hpo, ← hs1, this, ec]⟩
      · rw [hu1] at hs1 ⊢
        rw [hb hb0]; exact ⟨s1, hs1⟩
      · rw [hu1] at hs1 ⊢
        rw [hg hg0]
        by_cases e1 : s1 = whr T p
        · rw [e1, ekt hg0] at hs1; exact absurd hs1.symm n2
        · have : s1 = !whr T p := by cases hw : whr T p <;> cases s1 <;> simp_all
          exact ⟨!whr T p, by rw [setK_o, ← this]; exact hs1⟩
      · rw [e2]; exact ⟨s1, hs1⟩
  · -- nd
    by_cases e1 : y = x
    · rw [e1, s1]; exact h.nd p
    · by_cases e2 : y = p
      · rw [e2, s2]
        have := h.nd p
        rw [key] at this
        exact (cat_nd this).2
      · rw [s3 y e1 e2]; exact h.nd y
  · -- val
    rcases five y with rfl | rfl | ⟨hb0, rfl⟩ | ⟨hg0, rfl⟩ | ⟨e, _⟩
    · rw [hxv]; exact h.val _ hy
    · rw [hpv]; exact h.val _ hy
    · rw [hb hb0]; exact h.val _ hy
    · rw [hg hg0, setK_v]; exact h.val _ hy
    · rw [e]; exact h.val _ hy
  · -- tal
    rcases five y with rfl | rfl | ⟨hb0, rfl⟩ | ⟨hg0, rfl⟩ | ⟨e, n1, n2, _⟩
    · rw [s1, key]; exact hxl
    · rw [s2]; exact hpl
    · rw [s3 y nbx nbp, hb hb0]; exact (h.tal y).of rfl rfl rfl rfl
    · rw [s3 y (ngx hg0) (ngp hg0), hg hg0]; exact (h.tal y).of (setK_rest _ _ _) (setK_s _ _ _) (setK_lo _ _ _) (setK_hi _ _ _)
    · rw [s3 y n1 n2, e]; exact h.tal y
  · -- root
    rcases five y with rfl | rfl | ⟨hb0, rfl⟩ | ⟨hg0, rfl⟩ | ⟨e, n1, n2, _⟩
    · rw [hxu] at hu
      rw [s1, sx]
      exact h.root p hp (eg.trans hu)
    · rw [hpu] at hu; exact absurd hu hx
    · rw [hb hb0] at hu; exact absurd hu hp
    · rw [hg hg0, setK_up] at hu
      rw [s3 y (ngx hg0) (ngp hg0)]
      exact h.root y hg0 hu
    · rw [e] at hu
      rw [s3 y n1 n2]; exact h.root y hy hu
  · -- climb
    rcases five y with rfl | rfl | ⟨hb0, rfl⟩ | ⟨hg0, rfl⟩ | ⟨e, n1, n2, _⟩
    · rw [hxu] at hu ⊢
      rw [sx, sp hu]
    · rw [hpu, sx]
    · rw [hb hb0]; show seq y = seq p; rw [sb hb0, sx]
    · rw [hg hg0, setK_up] at hu ⊢
      exact h.climb y hg0 hu
    · rw [e] at hu ⊢
      exact h.climb y hy hu

end Go.Proofs.YtdmkbcbgjdmgdaaGreatDoor.Ct

namespace Go.Proofs.YtdmkbcbgjdmgdaaGreatDoor.Ct
open Go.RowKit

variable {T T' : Tb} {v : Nat → Int} {sub seq : Nat → List Nat}

theorem putT_other {x k y : Nat} {s : Bool} (hy : y ≠ x) (hk : k ≠ 0 → y ≠ k) : putT T x s k y = T y := by
  unfold putT
  split
  · rw [upd_ne hy]
  · next h => rw [upd_ne (hk h), upd_ne hy]

theorem putT_tal {x k y : Nat} {s : Bool} {l : List Nat} (hy : y ≠ x) (h : Tal (T y) v l) : Tal (putT T x s k y) v l := by
  by_cases e : k ≠ 0 ∧ y = k
  · obtain ⟨hk, rfl⟩ := e
    unfold putT
    rw [if_neg hk, upd_same]
    exact h.of rfl rfl rfl rfl
  · rw [putT_other hy (fun hk e' => e ⟨hk, e'⟩)]; exact h

theorem hangT_other {x k y : Nat} {s : Bool} (hy : y ≠ x) (hk : k ≠ 0 → y ≠ k) : hangT T x s k y = T y := by
  unfold hangT tallyT
  rw [upd_ne hy, putT_other hy hk]

theorem hangT_kid {x k : Nat} {s : Bool} (hk : k ≠ 0) (hkx : k ≠ x) : hangT T x s k k = { T k with up := x } := by
  unfold hangT tallyT
  rw [upd_ne hkx]
  unfold putT
  rw [if_neg hk, upd_same]

theorem tally_k (n a b : Nd) (s : Bool) : (tally n a b).k s = n.k s := by cases s <;> rfl

theorem hangT_self {x k : Nat} {s : Bool} (hkx : k ≠ x) :
    (hangT T x s k x).k s = k ∧ (hangT T x s k x).k (!s) = (T x).k (!s) ∧ (hangT T x s k x).up = (T x).up ∧ (hangT T x s k x).t = (T x).t ∧ (hangT T x s k x).v = (T x).v := by
  unfold hangT tallyT
  rw [upd_same, putT_x hkx, tally_k, tally_k, setK_k, setK_o]
  exact ⟨rfl, rfl, setK_up _ _ _, setK_t _ _ _, setK_v _ _ _⟩

theorem hangT_tal {x k o : Nat} {s : Bool} {K O : List Nat} (hkx : k ≠ x) (ho : (T x).k (!s) = o) (hox : o ≠ x) (hv : (T x).v = v x) (hK : Tal (T k) v K) (hO : Tal (T o) v O) (hl : K.length + O.length ≤ 1000000000) :
    Tal (hangT T x s k x) v (cat s K x O) := by
  have e1 := putT_tal (x := x) (k := k) (s := s) hkx hK
  have e2 := putT_tal (x := x) (k := k) (s := s) hox hO
  unfold hangT tallyT
  rw [upd_same, putT_x hkx]
  cases s
  · have ho' : ((T x).setK false k).r = o := ho
    rw [ho']
    exact (tally_tal (hv ▸ setK_v _ _ _) e1 e2 hl false).1
  · have ho' : ((T x).setK true k).l = o := ho
    rw [ho']
    exact (tally_tal (hv ▸ setK_v _ _ _) e2 e1 (by omega) true).2

/-- What 'lift' makes of the table. -/
def liftT (T : Tb) (x : Nat) : Tb :=
  let T2 := hangT (hangT T (T x).up (whr T x) ((T x).k (!whr T x))) x (!whr T x) (T x).up
  let T3 := upd T2 x { T2 x with up := (T (T x).up).up }
  if (T (T x).up).up = 0 then T3 else upd T3 (T (T x).up).up ((T3 (T (T x).up).up).setK (whr T (T x).up) x)

/-- What the walk of a lift must know. -/
structure Near (T : Tb) (x p b g c a : Nat) (s : Bool) : Prop where
  ep : (T x).up = p
  es : (T p).k s = x
  es' : whr T x = s
  eb : (T x).k (!s) = b
  eg : (T p).up = g
  ec : (T p).k (!s) = c
  ea : (T x).k s = a
  nxp : x ≠ p
  nbx : b ≠ x
  nbp : b ≠ p
  nax : a ≠ x
  nap : a ≠ p
  nab : a ≠ 0 → a ≠ b
  ncp : c ≠ p
  ncx : c ≠ x
  ncb : c ≠ 0 → c ≠ b
  ngx : g ≠ 0 → g ≠ x
  ngp : g ≠ 0 → g ≠ p
  ngb : g ≠ 0 → g ≠ b

theorem Inv.near (h : Inv T v sub seq) {x : Nat} (hx : x ≠ 0) (hp : (T x).up ≠ 0) : ∃ p b g c a s, p ≠ 0 ∧ Near T x p b g c a s := by
  obtain ⟨p, ep⟩ : ∃ p, (T x).up = p := ⟨_, rfl⟩
  obtain ⟨s, es'⟩ : ∃ s, whr T x = s := ⟨_, rfl⟩
  have es := h.onSide hx hp
  rw [es', ep] at es
  rw [ep] at hp
  obtain ⟨b, eb⟩ : ∃ b, (T x).k (!s) = b := ⟨_, rfl⟩
  obtain ⟨g, eg⟩ : ∃ g, (T p).up = g := ⟨_, rfl⟩
  obtain ⟨a, ea⟩ : ∃ a, (T x).k s = a := ⟨_, rfl⟩
  obtain ⟨c, ec⟩ : ∃ c, (T p).k (!s) = c := ⟨_, rfl⟩
  have lxp : (sub x).length < (sub p).length := by have := h.kid_lt hp s; rw [es] at this; exact this
  have lbx : (sub b).length < (sub x).length := by have := h.kid_lt hx (!s); rw [eb] at this; exact this
  have lax : (sub a).length < (sub x).length := by have := h.kid_lt hx s; rw [ea] at this; exact this
  have lcp : (sub c).length < (sub p).length := by have := h.kid_lt hp (!s); rw [ec] at this; exact this
  have lpg : g ≠ 0 → (sub p).length < (sub g).length := fun hg => by have := h.up_lt hp (by rw [eg]; exact hg); rw [eg] at this; exact this
  have nxp : x ≠ p := fun e => by rw [e] at lxp; omega
  refine ⟨p, b, g, c, a, s, hp, ep, es, es', eb, eg, ec, ea, nxp, fun e => by rw [e] at lbx; omega, fun e => by rw [e] at lbx; omega, fun e => by rw [e] at lax; omega, fun e => by rw [e] at lax; omega, ?_, fun e => by rw [e] at lcp; omega, ?_, ?_,
    fun hg e => by have := lpg hg; rw [e] at this; omega, fun hg e => by have := lpg hg; rw [e] at this; omega, fun hg e => by have := lpg hg; rw [e] at this; omega⟩
  · intro ha e; have := h.kids hx s (by rw [ea]; exact ha); rw [ea, eb] at this; exact this e.symm
  · intro e; have := h.kids hp s (by rw [es]; exact hx); rw [ec, es] at this; exact this e
  · intro hc e
    have h1 := h.upk p hp (!s) (by rw [ec]; exact hc)
    have h2 := h.upk x hx (!s) (by rw [eb, ← e]; exact hc)
    rw [ec] at h1
    rw [eb, ← e, h1] at h2
    exact nxp h2.symm

theorem lift_nodes (h : Inv T v sub seq) {x p b g c a : Nat} {s : Bool} (hx : x ≠ 0) (hp : p ≠ 0) (n : Near T x p b g c a s) (hB : ∀ y, (sub y).length ≤ 300000000) : Lifted T (liftT T x) v sub x p b g s := by
  obtain ⟨ep, es, es', eb, eg, ec, ea, nxp, nbx, nbp, nax, nap, nab, ncp, ncx, ncb, ngx, ngp, ngb⟩ := n
  obtain ⟨T1, hT1⟩ : ∃ T1, hangT T p s b = T1 := ⟨_, rfl⟩
  obtain ⟨T2, hT2⟩ : ∃ T2, hangT T1 x (!s) p = T2 := ⟨_, rfl⟩
  obtain ⟨T3, hT3⟩ : ∃ T3, upd T2 x { T2 x with up := g } = T3 := ⟨_, rfl⟩
  obtain ⟨T4, hT4⟩ : ∃ T4, (if g = 0 then T3 else upd T3 g ((T3 g).setK (whr T p) x)) = T4 := ⟨_, rfl⟩
  have hlift : liftT T x = T4 := by
    subst hT4 hT3 hT2 hT1
    unfold liftT
    rw [ep, es', eb, eg]
  rw [hlift]
  clear hlift
  have o1 : ∀ y, y ≠ p → (b ≠ 0 → y ≠ b) → T1 y = T y := fun y h1 h2 => by rw [← hT1]; exact hangT_other h1 h2
  have x1 : T1 x = T x := o1 x nxp (fun _ => nbx.symm)
  have p1 := hangT_self (T := T) (s := s) nbp
  rw [hT1, ec] at p1
  have b1 : b ≠ 0 → T1 b = { T b with up := p } := fun hb => by rw [← hT1]; exact hangT_kid hb nbp
  have tp1 : Tal (T1 p) v (cat s (sub b) p (sub c)) := by
    rw [← hT1]
    exact hangT_tal nbp ec ncp (h.val p hp) (h.tal b) (h.tal c) (by have := hB b; have := hB c; omega)
  have ta1 : Tal (T1 a) v (sub a) := by
    rw [o1 a nap (fun hb e => nab (fun e0 => hb (by rw [← e, e0])) e)]
    exact h.tal a
  clear hT1
  have o2 : ∀ y, y ≠ x → y ≠ p → T2 y = T1 y := fun y h1 h2 => by rw [← hT2]; exact hangT_other h1 (fun _ => h2)
  have p2 : T2 p = { T1 p with up := x } := by rw [← hT2]; exact hangT_kid hp nxp.symm
  have x2 := hangT_self (T := T1) (x := x) (k := p) (s := !s) nxp.symm
  rw [hT2, x1, Bool.not_not, ea] at x2
  have tx2 : Tal (T2 x) v (cat s (sub a) x (cat s (sub b) p (sub c))) := by
    rw [← cat_swap, ← hT2]
    exact hangT_tal nxp.symm (by rw [x1, Bool.not_not]; exact ea) nax (by rw [x1]; exact h.val x hx) tp1 ta1 (by rw [cat_len]; have := hB a; have := hB b; have := hB c; omega)
  clear hT2
  have x3 : T3 x = { T2 x with up := g } := by rw [← hT3, upd_same]
  have o3 : ∀ y, y ≠ x → T3 y = T2 y := fun y hy => by rw [← hT3, upd_ne hy]
  clear hT3
  have o4 : ∀ y, (g ≠ 0 → y ≠ g) → T4 y = T3 y := fun y hy => by
    rw [← hT4]
    split
    · rfl
    · next hg => rw [upd_ne (hy hg)]
  have g4 : g ≠ 0 → T4 g = (T3 g).setK (whr T p) x := fun hg => by rw [← hT4, if_neg hg, upd_same]
  clear hT4
  have x4 : T4 x = { T2 x with up := g } := by rw [o4 x (fun hg e => ngx hg e.symm), x3]
  have p4 : T4 p = { T1 p with up := x } := by rw [o4 p (fun hg e => ngp hg e.symm), o3 p nxp.symm, p2]
  refine ⟨?_, ?_, by rw [x4], ?_, ?_, ?_, ?_, ?_, by rw [p4], ?_, ?_, ?_, fun hb => ?_, fun hg => ?_, fun y h1 h2 h3 h4 => ?_⟩
  · rw [x4, ea]; exact x2.2.1
  · rw [x4]; exact x2.1
  · rw [x4]; exact x2.2.2.2.1
  · rw [x4]; exact x2.2.2.2.2
  · rw [x4, ea, ec]; exact tx2.of rfl rfl rfl rfl
  · rw [p4]; exact p1.1
  · rw [p4, ec]; exact p1.2.1
  · rw [p4]; exact p1.2.2.2.1
  · rw [p4]; exact p1.2.2.2.2
  · rw [p4, ec]; exact tp1.of rfl rfl rfl rfl
  · rw [o4 b (fun hg e => ngb hg e.symm), o3 b nbx, o2 b nbx nbp, b1 hb]
  · rw [g4 hg, o3 g (ngx hg), o2 g (ngx hg) (ngp hg), o1 g (ngp hg) (fun _ => ngb hg)]
  · rw [o4 y h4, o3 y h1, o2 y h1 h2, o1 y h2 h3]

theorem Inv.lift (h : Inv T v sub seq) {x p b g c a : Nat} {s : Bool} (hx : x ≠ 0) (hp : p ≠ 0) (n : Near T x p b g c a s) (hB : ∀ y, (sub y).length ≤ 300000000) (tx : (T x).t = false) (tp : (T p).t = false) :
    Inv (liftT T x) v (fun y => if y = x then sub p else if y = p then cat s (sub b) p (sub ((T p).k (!s))) else sub y) seq :=
  h.rot hx hp n.ep n.es n.eb n.eg tx tp (lift_nodes h hx hp n hB)

theorem turnT_at {x y : Nat} : turnT T x y = if y = x ∧ x ≠ 0 then { T x with t := !(T x).t } else T y := by
  unfold turnT upd
  by_cases h0 : x = 0
  · simp [h0]
  · by_cases h1 : y = x
    · simp [h0, h1]
    · simp [h0, h1]

/-- A node settled. -/
theorem Inv.settle (h : Inv T v sub seq) {x : Nat} (hx : x ≠ 0) (ht : (T x).t = true) :
    Inv (settleT T x) v (fun y => if y ≠ 0 ∧ (T y).up = x then (sub y).reverse else sub y) seq ∧ (settleT T x x).t = false ∧ (∀ y, (settleT T x y).up = (T y).up) ∧ (∀ y, y ≠ x → (y ≠ 0 → (T y).up ≠ x) → settleT T x y = T y) ∧ (∀ y, (settleT T x y).k true = if y = x then (T x).l else (T y).r) ∧ (∀ y, (settleT T x y).k false = if y = x then (T x).r else (T y).l) := by
  obtain ⟨L, hL⟩ : ∃ L, (T x).l = L := ⟨_, rfl⟩
  obtain ⟨R, hR⟩ : ∃ R, (T x).r = R := ⟨_, rfl⟩
  have nLx : L ≠ x := by have := h.kid_ne hx false; exact fun e => this (hL.trans e)
  have nRx : R ≠ x := by have := h.kid_ne hx true; exact fun e => this (hR.trans e)
  have uL : L ≠ 0 → (T L).up = x := fun h0 => by have := h.upk x hx false (by rw [show (T x).k false = L from hL]; exact h0); rw [show (T x).k false = L from hL] at this; exact this
  have uR : R ≠ 0 → (T R).up = x := fun h0 => by have := h.upk x hx true (by rw [show (T x).k true = R from hR]; exact h0); rw [show (T x).k true = R from hR] at this; exact this
  have nLR : L ≠ 0 → L ≠ R := fun h0 e => by
    have := h.kids hx false (by rw [show (T x).k false = L from hL]; exact h0)
    exact this (hR.trans (e.symm.trans hL.symm))
  have kd : ∀ y, y ≠ 0 → (T y).up = x → y = L ∨ y = R := fun y hy hu => by
    obtain ⟨s, hs⟩ := h.kid y hy (by rw [hu]; exact hx)
    rw [hu] at hs
    cases s
    · exact Or.inl (hs.symm.trans hL)
    · exact Or.inr (hs.symm.trans hR)
  have hT : ∀ y, settleT T x y = if y = x then swapN (T x) else if y ≠ 0 ∧ (T y).up = x then { T y with t := !(T y).t } else T y := by
    intro y
    unfold settleT
    rw [ht, if_pos rfl, hL, hR, turnT_at, turnT_at, turnT_at]
    by_cases e1 : y = x
    · subst e1
      simp [nLx.symm, nRx.symm, upd_same]
    · by_cases e2 : y = L
      · subst e2
        by_cases h0 : y = 0
        · subst h0; simp [Ne.symm hx, upd_ne (Ne.symm hx)]
          intro e3 e4; exact absurd e3.symm e4
        · simp [h0, e1, uL h0, nLR h0, upd_ne e1]
      · by_cases e3 : y = R
        · subst e3
          by_cases h0 : y = 0
          · subst h0; simp [Ne.symm hx, upd_ne (Ne.symm hx), e2]
          · simp [h0, e1, e2, uR h0, upd_ne e1]
        · have : ¬ (y ≠ 0 ∧ (T y).up = x) := fun ⟨h0, hu⟩ => by rcases kd y h0 hu with e | e <;> contradiction
          simp [e1, e2, e3, this, upd_ne e1]
  generalize settleT T x = T' at hT
  have up' : ∀ y, (T' y).up = (T y).up := fun y => by
    rw [hT]
    split
    · next e => rw [e]; rfl
    · split <;> rfl
  have k1 : ∀ y, (T' y).k true = if y = x then (T x).l else (T y).r := fun y => by
    rw [hT]
    split
    · rfl
    · split <;> rfl
  have k0 : ∀ y, (T' y).k false = if y = x then (T x).r else (T y).l := fun y => by
    rw [hT]
    split
    · rfl
    · split <;> rfl
  have ks : ∀ y, y ≠ x → ∀ s, (T' y).k s = (T y).k s := fun y hy s => by
    cases s
    · rw [k0, if_neg hy]; rfl
    · rw [k1, if_neg hy]; rfl
  have kx : ∀ s, (T' x).k s = (T x).k (!s) := fun s => by
    cases s
    · rw [k0, if_pos rfl]; rfl
    · rw [k1, if_pos rfl]; rfl
  generalize hsub : (fun y => if y ≠ 0 ∧ (T y).up = x then (sub y).reverse else sub y) = sub'
  have sk : ∀ y, y ≠ 0 → (T y).up = x → sub' y = (sub y).reverse := fun y h1 h2 => by rw [← hsub]; simp [h1, h2]
  have so : ∀ y, (y ≠ 0 → (T y).up ≠ x) → sub' y = sub y := fun y h1 => by
    rw [← hsub]; dsimp only
    rw [if_neg (fun e => h1 e.1 e.2)]
  have sx : sub' x = sub x := so x (fun _ e => by have := h.up_lt hx (by rw [e]; exact hx); rw [e] at this; omega)
  have s0 : sub' 0 = [] := by rw [so 0 (fun e => absurd rfl e)]; exact h.sub0
  clear hsub
  refine ⟨⟨?_, s0, fun y hy s => ?_, fun y hy s hk => ?_, fun y hy hu => ?_, fun y => ?_, fun y hy => ?_, fun y => ?_, fun y hy hu => ?_, fun y hy hu => ?_⟩, ?_, up', fun y h1 h2 => ?_, k1, k0⟩
  · rw [hT, if_neg (Ne.symm hx), if_neg (fun e => e.1 rfl)]; exact h.none
  · by_cases e1 : y = x
    · subst e1
      rw [sx, hT, if_pos rfl]
      have kk : ∀ s, sub' ((T y).k s) = (sub ((T y).k s)).reverse := fun s => by
        by_cases h0 : (T y).k s = 0
        · rw [h0, s0, h.sub0]; rfl
        · exact sk _ h0 (h.upk y hy s h0)
      have e : ∀ s, (swapN (T y)).k s = (T y).k (!s) := fun s => by cases s <;> rfl
      rw [e, e, kk, kk, Bool.not_not]
      have := h.eqn y hy (!s)
      rw [ht, Bool.not_not] at this
      rw [this]
      show (cat (!s) _ y _).reverse = cat s _ y _
      rw [cat_rev, cat_swap]
    · have hkk : ∀ s, sub' ((T y).k s) = sub ((T y).k s) := fun s => so _ (fun h0 e => e1 (by rw [← h.upk y hy s h0]; exact e))
      rw [ks y e1, ks y e1, hkk, hkk]
      by_cases e2 : (T y).up = x
      · rw [sk y hy e2, hT, if_neg e1, if_pos ⟨hy, e2⟩]
        show _ = flp (!(T y).t) _
        rw [flp_not, ← h.eqn y hy s]
      · rw [so y (fun _ => e2), hT, if_neg e1, if_neg (fun e => e2 e.2)]
        exact h.eqn y hy s
  · rw [up']
    by_cases e1 : y = x
    · subst e1
      rw [kx] at hk ⊢
      exact h.upk y hy _ hk
    · rw [ks y e1] at hk ⊢
      exact h.upk y hy _ hk
  · rw [up'] at hu ⊢
    obtain ⟨s, hs⟩ := h.kid y hy hu
    by_cases e1 : (T y).up = x
    · rw [e1] at hs ⊢
      exact ⟨!s, by rw [kx, Bool.not_not]; exact hs⟩
    · exact ⟨s, by rw [ks _ e1]; exact hs⟩
  · by_cases e : y ≠ 0 ∧ (T y).up = x
    · rw [sk y e.1 e.2, nodup_rev]; exact h.nd y
    · rw [so y (fun h0 e2 => e ⟨h0, e2⟩)]; exact h.nd y
  · rw [hT]
    split
    · next e => subst e; exact h.val y hy
    · split <;> exact h.val y hy
  · by_cases e : y ≠ 0 ∧ (T y).up = x
    · have e1 : y ≠ x := fun e' => by have := h.up_lt e.1 (by rw [e.2]; exact hx); rw [e.2, e'] at this; omega
      rw [sk y e.1 e.2, hT, if_neg e1, if_pos e]
      exact (h.tal y).rev.of rfl rfl rfl rfl
    · rw [so y (fun h0 e2 => e ⟨h0, e2⟩), hT]
      split
      · next e1 => subst e1; exact (h.tal y).of rfl rfl rfl rfl
      · exact h.tal y
  · rw [up'] at hu
    rw [so y (fun _ e => hx (by rw [← e]; exact hu))]
    exact h.root y hy hu
  · rw [up'] at hu ⊢
    exact h.climb y hy hu
  · rw [hT, if_pos rfl]; rfl
  · rw [hT, if_neg h1, if_neg (fun e => h2 e.1 e.2)]

end Go.Proofs.YtdmkbcbgjdmgdaaGreatDoor.Ct

namespace Go.Proofs.YtdmkbcbgjdmgdaaGreatDoor.Ct
open Go.RowKit

variable {T T' T'' : Tb} {v : Nat → Int} {sub sub' sub'' seq : Nat → List Nat} {N : Nat}

/-- The table of N nodes; the others are alone. -/
structure Gd (N : Nat) (T : Tb) (v : Nat → Int) (sub seq : Nat → List Nat) : Prop where
  inv : Inv T v sub seq
  zero : ∀ x, N ≤ x → T x = nd0
  pos : 1 ≤ N
  big : N ≤ 8388609

theorem Gd.k_lt (h : Gd N T v sub seq) (x : Nat) (s : Bool) : (T x).k s < N := by
  have hp := h.pos
  by_cases hx : x = 0
  · rw [hx, h.inv.none]; cases s <;> exact hp
  · by_cases hk : (T x).k s = 0
    · rw [hk]; exact hp
    · rcases Nat.lt_or_ge ((T x).k s) N with h1 | h1
      · exact h1
      · have := h.inv.upk x hx s hk
        rw [h.zero _ h1] at this
        exact absurd this.symm hx

theorem Gd.l_lt (h : Gd N T v sub seq) (x : Nat) : (T x).l < N := h.k_lt x false
theorem Gd.r_lt (h : Gd N T v sub seq) (x : Nat) : (T x).r < N := h.k_lt x true

theorem Gd.up_lt (h : Gd N T v sub seq) (x : Nat) : (T x).up < N := by
  have hp := h.pos
  by_cases hx : x = 0
  · rw [hx, h.inv.none]; exact hp
  · by_cases hu : (T x).up = 0
    · rw [hu]; exact hp
    · rcases Nat.lt_or_ge (T x).up N with h1 | h1
      · exact h1
      · obtain ⟨s, hs⟩ := h.inv.kid x hx hu
        rw [h.zero _ h1] at hs
        cases s <;> exact absurd hs.symm hx

theorem Gd.lt (h : Gd N T v sub seq) {x : Nat} (hu : (T x).up ≠ 0) : x < N := by
  rcases Nat.lt_or_ge x N with h1 | h1
  · exact h1
  · rw [h.zero x h1] at hu; exact absurd rfl hu

theorem Gd.len (h : Gd N T v sub seq) (x : Nat) : (sub x).length ≤ N + 1 := by
  by_cases hx : x = 0
  · rw [hx, h.inv.sub0]; simp
  · have := List.Nodup.length_le_of_subset (l₂ := x :: List.range N) (h.inv.nd x) (fun y hy => by
      by_cases e : y = x
      · rw [e]; exact List.mem_cons_self
      · exact List.mem_cons_of_mem _ (List.mem_range.2 (h.lt (h.inv.sub_up hx hy e))))
    simpa using this

theorem Gd.len3 (h : Gd N T v sub seq) (x : Nat) : (sub x).length ≤ 300000000 := by have := h.len x; have := h.big; omega

theorem Gd.self (h : Gd N T v sub seq) {x : Nat} (hx : x ≠ 0) : x ∈ seq x := by
  obtain ⟨r, _, _, h3, h4, _⟩ := h.inv.top h.len (N + 1) x (by omega) hx
  rw [h3]; exact h4

/-- The sequence of a member is the sequence. -/
theorem Gd.mem_seq (h : Gd N T v sub seq) {x y : Nat} (hx : x ≠ 0) (hy : y ∈ seq x) : seq y = seq x ∧ y ≠ 0 := by
  obtain ⟨r, h1, h2, h3, h4, _⟩ := h.inv.top h.len (N + 1) x (by omega) hx
  rw [h3] at hy ⊢
  exact ⟨(h.inv.sub_seq h1 hy).trans (h.inv.root r h1 h2), h.inv.sub_ne h1 hy⟩

theorem Gd.seq_nd (h : Gd N T v sub seq) {x : Nat} (hx : x ≠ 0) : (seq x).Nodup := by
  obtain ⟨r, _, _, h3, _, _⟩ := h.inv.top h.len (N + 1) x (by omega) hx
  rw [h3]; exact h.inv.nd r

theorem Gd.seq_len (h : Gd N T v sub seq) {x : Nat} (hx : x ≠ 0) : (seq x).length ≤ N + 1 := by
  obtain ⟨r, _, _, h3, _, _⟩ := h.inv.top h.len (N + 1) x (by omega) hx
  rw [h3]; exact h.len r

/-- From one table to another one: the sequences stay; of other sequences the nodes too. -/
structure Mv (N : Nat) (v : Nat → Int) (seq : Nat → List Nat) (x : Nat) (T : Tb) (sub : Nat → List Nat) (T' : Tb) (sub' : Nat → List Nat) : Prop where
  gd : Gd N T' v sub' seq
  fr : ∀ y, (y ≠ 0 → seq y ≠ seq x) → T' y = T y ∧ sub' y = sub y

theorem Mv.refl (h : Gd N T v sub seq) (x : Nat) : Mv N v seq x T sub T sub := ⟨h, fun _ _ => ⟨rfl, rfl⟩⟩
theorem Mv.trans {x : Nat} (h : Mv N v seq x T sub T' sub') (k : Mv N v seq x T' sub' T'' sub'') : Mv N v seq x T sub T'' sub'' :=
  ⟨k.gd, fun y hy => ⟨(k.fr y hy).1.trans (h.fr y hy).1, (k.fr y hy).2.trans (h.fr y hy).2⟩⟩
theorem Mv.at {x z : Nat} (h : Mv N v seq x T sub T' sub') (e : seq x = seq z) : Mv N v seq z T sub T' sub' := ⟨h.gd, by rw [← e]; exact h.fr⟩

theorem seq_up (h : Inv T v sub seq) {x : Nat} (hx : x ≠ 0) (hu : (T x).up ≠ 0) : seq (T x).up = seq x := (h.climb x hx hu).symm

/-- What settling a node leaves. -/
structure Stl (x : Nat) (T : Tb) (sub : Nat → List Nat) (T' : Tb) (sub' : Nat → List Nat) : Prop where
  t : (T' x).t = false
  up : ∀ y, (T' y).up = (T y).up
  o : ∀ y, y ≠ x → (y ≠ 0 → (T y).up ≠ x) → T' y = T y
  s : ∀ y, (y ≠ 0 → (T y).up ≠ x) → sub' y = sub y
  len : ∀ y, (sub' y).length = (sub y).length
  id : (T x).t = false → T' = T ∧ sub' = sub

theorem Gd.settle (h : Gd N T v sub seq) (x : Nat) : ∃ sub', Mv N v seq x T sub (settleT T x) sub' ∧ Stl x T sub (settleT T x) sub' := by
  by_cases ht : (T x).t = false
  · have e : settleT T x = T := by unfold settleT; rw [ht]; rfl
    rw [e]
    exact ⟨sub, Mv.refl h x, ht, fun _ => rfl, fun _ _ _ => rfl, fun _ _ => rfl, fun _ => rfl, fun _ => ⟨rfl, rfl⟩⟩
  · have ht : (T x).t = true := by simpa using ht
    have hx : x ≠ 0 := fun e => by rw [e, h.inv.none] at ht; cases ht
    have hxN : x < N := by
      rcases Nat.lt_or_ge x N with h1 | h1
      · exact h1
      · rw [h.zero x h1] at ht; cases ht
    obtain ⟨i1, i2, i3, i4, _, _⟩ := h.inv.settle hx ht
    have hs : ∀ y, (y ≠ 0 → (T y).up ≠ x) → (fun y => if y ≠ 0 ∧ (T y).up = x then (sub y).reverse else sub y) y = sub y := fun y hy => if_neg (fun e => hy e.1 e.2)
    refine ⟨_, ⟨⟨i1, fun y hy => ?_, h.pos, h.big⟩, fun y hy => ?_⟩, i2, i3, i4, hs, fun y => ?_, fun e => by rw [ht] at e; cases e⟩
    · rw [i4 y (by omega) (fun _ e => by have := h.lt (x := y) (by rw [e]; exact hx); omega)]
      exact h.zero y hy
    · have hk : y ≠ 0 → (T y).up ≠ x := fun h0 e => hy h0 (by have := seq_up h.inv h0 (by rw [e]; exact hx); rw [e] at this; exact this.symm)
      refine ⟨?_, hs y hk⟩
      by_cases e : y = x
      · exact absurd (by rw [e]) (hy (by rw [e]; exact hx))
      · exact i4 y e hk
    · try dsimp only
      split <;> simp

/-- What lifting a node leaves. -/
structure Lft (x p : Nat) (T : Tb) (sub : Nat → List Nat) (T' : Tb) (sub' : Nat → List Nat) : Prop where
  up : (T' x).up = (T p).up
  t : ∀ y, (T' y).t = (T y).t
  sx : sub' x = sub p
  so : ∀ y, y ≠ x → y ≠ p → sub' y = sub y
  o : ∀ y, y ≠ x → y ≠ p → y ≠ (T x).k (!whr T x) → y ≠ (T p).up → T' y = T y
  us : ∀ y, y ≠ x → y ≠ p → y ≠ (T x).k (!whr T x) → (T' y).up = (T y).up

theorem Gd.lift (h : Gd N T v sub seq) {x : Nat} (hx : x ≠ 0) (hu : (T x).up ≠ 0) (tx : (T x).t = false) (tp : (T (T x).up).t = false) :
    ∃ sub', Mv N v seq x T sub (liftT T x) sub' ∧ Lft x (T x).up T sub (liftT T x) sub' := by
  obtain ⟨p, b, g, c, a, s, hp, n⟩ := h.inv.near hx hu
  rw [n.ep] at tp ⊢
  have hI := h.inv.lift hx hp n h.len3 tx tp
  have hL := lift_nodes h.inv hx hp n h.len3
  have ub : b ≠ 0 → (T b).up = x := fun hb => by have := h.inv.upk x hx (!s) (by rw [n.eb]; exact hb); rw [n.eb] at this; exact this
  have sp : seq p = seq x := by have := seq_up h.inv hx hu; rw [n.ep] at this; exact this
  have sg : g ≠ 0 → seq g = seq x := fun hg => by have := seq_up h.inv hp (by rw [n.eg]; exact hg); rw [n.eg] at this; exact this.trans sp
  have sb : b ≠ 0 → seq b = seq x := fun hb => by have := seq_up h.inv hb (by rw [ub hb]; exact hx); rw [ub hb] at this; exact this.symm
  have oth : ∀ y, y ≠ x → y ≠ p → (b ≠ 0 → y ≠ b) → (g ≠ 0 → y ≠ g) → liftT T x y = T y := hL.ko
  have gl : g < N := by rw [← n.eg]; exact h.up_lt p
  have pl : p < N := by rw [← n.ep]; exact h.up_lt x
  have bl : b < N := by rw [← n.eb]; exact h.k_lt x (!s)
  refine ⟨_, ⟨⟨hI, fun y hy => ?_, h.pos, h.big⟩, fun y hy => ?_⟩, ?_, ?_, if_pos rfl, fun y h1 h2 => ?_, ?_, ?_⟩
  · have := h.lt hu
    rw [oth y (by omega) (by omega) (fun _ => by omega) (fun _ => by omega)]
    exact h.zero y hy
  · have n1 : y ≠ x := fun e => hy (by rw [e]; exact hx) (by rw [e])
    have n2 : y ≠ p := fun e => hy (by rw [e]; exact hp) (by rw [e]; exact sp)
    refine ⟨oth y n1 n2 (fun hb e => hy (by rw [e]; exact hb) (by rw [e]; exact sb hb)) (fun hg e => hy (by rw [e]; exact hg) (by rw [e]; exact sg hg)), ?_⟩
    try dsimp only
    rw [if_neg n1, if_neg n2]
  · rw [hL.xu, n.eg]
  · intro y
    by_cases e1 : y = x
    · rw [e1]; exact hL.xt
    · by_cases e2 : y = p
      · rw [e2]; exact hL.pt
      · by_cases e3 : b ≠ 0 ∧ y = b
        · rw [e3.2, hL.kb e3.1]
        · by_cases e4 : g ≠ 0 ∧ y = g
          · rw [e4.2, hL.kg e4.1, setK_t]
          · rw [oth y e1 e2 (fun hb e => e3 ⟨hb, e⟩) (fun hg e => e4 ⟨hg, e⟩)]
  · (try dsimp only); rw [if_neg h1, if_neg h2]
  · intro y h1 h2 h3 h4
    rw [n.es', n.eb] at h3
    exact oth y h1 h2 (fun _ => h3) (fun _ => by rw [n.eg] at h4; exact h4)
  · intro y h1 h2 h3
    rw [n.es', n.eb] at h3
    by_cases e4 : g ≠ 0 ∧ y = g
    · rw [e4.2, hL.kg e4.1, setK_up]
    · rw [oth y h1 h2 (fun _ => h3) (fun hg e => e4 ⟨hg, e⟩)]

/-- Three nodes settled, one above the other. -/
theorem settle3 {T1 T2 T3 : Tb} {sub1 sub2 sub3 : Nat → List Nat} (h : Gd N T v sub seq) {x p g : Nat} (hx : x ≠ 0) (ep : (T x).up = p) (hp : p ≠ 0) (eg : (T p).up = g)
    (m1 : Mv N v seq g T sub T1 sub1) (s1 : Stl g T sub T1 sub1) (m2 : Mv N v seq p T1 sub1 T2 sub2) (s2 : Stl p T1 sub1 T2 sub2) (m3 : Mv N v seq x T2 sub2 T3 sub3) (s3 : Stl x T2 sub2 T3 sub3) :
    Mv N v seq x T sub T3 sub3 ∧ (T3 x).up = p ∧ (T3 p).up = g ∧ (T3 x).t = false ∧ (T3 p).t = false ∧ (g ≠ 0 → (T3 g).t = false) ∧ (sub3 x).length = (sub x).length := by
  have sp : seq p = seq x := by have := seq_up h.inv hx (by rw [ep]; exact hp); rw [ep] at this; exact this
  have m1' : Mv N v seq x T sub T1 sub1 := by
    by_cases hg : g = 0
    · have := s1.id (by rw [hg, h.inv.none]; rfl)
      rw [this.1, this.2]; exact Mv.refl h x
    · have sg := seq_up h.inv hp (by rw [eg]; exact hg)
      rw [eg] at sg
      exact m1.at (sg.trans sp)
  have u1 : ∀ y, (T3 y).up = (T y).up := fun y => by rw [s3.up, s2.up, s1.up]
  have lpx : (sub x).length < (sub p).length := by have := h.inv.up_lt hx (by rw [ep]; exact hp); rw [ep] at this; exact this
  have lgp : g ≠ 0 → (sub p).length < (sub g).length := fun hg => by have := h.inv.up_lt hp (by rw [eg]; exact hg); rw [eg] at this; exact this
  have npx : p ≠ x := fun e => by rw [e] at lpx; omega
  refine ⟨(m1'.trans (m2.at sp)).trans m3, by rw [u1]; exact ep, by rw [u1]; exact eg, s3.t, ?_, fun hg => ?_, by rw [s3.len, s2.len, s1.len]⟩
  · rw [s3.o p npx (fun _ e => by rw [s2.up, s1.up, eg] at e; by_cases hg : g = 0; exact hx (e.symm.trans hg); have := lgp hg; rw [e] at this; omega)]
    exact s2.t
  · have n1 : g ≠ x := fun e => by have := lgp hg; rw [e] at this; omega
    have n2 : g ≠ p := fun e => by have := lgp hg; rw [e] at this; omega
    have lu : (T g).up ≠ 0 → (sub g).length < (sub (T g).up).length := fun hu => h.inv.up_lt hg hu
    have := lgp hg
    rw [s3.o g n1 (fun _ e => by rw [s2.up, s1.up] at e; have := lu (by rw [e]; exact hx); rw [e] at this; omega), s2.o g n2 (fun _ e => by rw [s1.up] at e; have := lu (by rw [e]; exact hp); rw [e] at this; omega)]
    exact s1.t

/-- The upper step of a straight way. -/
theorem zigzig {T4 : Tb} {sub4 : Nat → List Nat} (h : Gd N T v sub seq) {x p g : Nat} (hx : x ≠ 0) (ep : (T x).up = p) (hp : p ≠ 0) (eg : (T p).up = g) (hg : g ≠ 0) (tx : (T x).t = false) (tp : (T p).t = false) (hw : whr T p = whr T x)
    (m : Mv N v seq p T sub T4 sub4) (l : Lft p g T sub T4 sub4) : Mv N v seq x T sub T4 sub4 ∧ (T4 x).up = p ∧ (T4 x).t = false ∧ (T4 p).t = false ∧ sub4 x = sub x := by
  have sp : seq p = seq x := by have := seq_up h.inv hx (by rw [ep]; exact hp); rw [ep] at this; exact this
  have lpx : (sub x).length < (sub p).length := by have := h.inv.up_lt hx (by rw [ep]; exact hp); rw [ep] at this; exact this
  have lgp : (sub p).length < (sub g).length := by have := h.inv.up_lt hp (by rw [eg]; exact hg); rw [eg] at this; exact this
  have n1 : x ≠ p := fun e => by rw [e] at lpx; omega
  have n2 : x ≠ g := fun e => by rw [e] at lpx; omega
  have n3 : x ≠ (T p).k (!whr T p) := fun e => by
    have h1 := h.inv.onSide hx (by rw [ep]; exact hp)
    rw [ep] at h1
    have := h.inv.kids hp (whr T x) (by rw [h1]; exact hx)
    rw [h1, ← hw] at this
    exact this e.symm
  refine ⟨m.at sp, by rw [l.us x n1 n2 n3]; exact ep, by rw [l.t]; exact tx, by rw [l.t]; exact tp, l.so x n1 n2⟩

theorem Mv.tal {x : Nat} (m : Mv N v seq x T sub T' sub') (y : Nat) : (T' y).rest + 1 = ((sub' y).length : Int) := by have := (m.gd.inv.tal y).rest; omega

end Go.Proofs.YtdmkbcbgjdmgdaaGreatDoor.Ct

namespace Go.Proofs.YtdmkbcbgjdmgdaaGreatDoor.Ct
open Go.RowKit

variable {T T' : Tb} {v : Nat → Int} {sub sub' seq : Nat → List Nat} {N : Nat}

theorem Gd.mem_iff (h : Gd N T v sub seq) {x y : Nat} (hx : x ≠ 0) (hy : y ≠ 0) : y ∈ seq x ↔ seq y = seq x :=
  ⟨fun e => (h.mem_seq hx e).1, fun e => by rw [← e]; exact h.self hy⟩

/-- What is beneath what is beneath. -/
theorem Inv.closed (h : Inv T v sub seq) : ∀ (n z : Nat), (sub z).length ≤ n → z ≠ 0 → ∀ u, u ∈ sub z → ∀ y, y ∈ sub u → y ∈ sub z
  | 0, z, hn, _, u, hu, _, _ => by have := List.length_pos_of_mem hu; omega
  | n + 1, z, hn, hz, u, hu, y, hy => by
    rcases (h.mem hz false u).1 hu with rfl | hk | hk
    · exact hy
    · have h0 : (T z).k false ≠ 0 := fun e => by rw [e, h.sub0] at hk; cases hk
      exact (h.mem hz false y).2 (Or.inr (Or.inl (h.closed n _ (by have := h.kid_lt hz false; omega) h0 u hk y hy)))
    · have h0 : (T z).k (!false) ≠ 0 := fun e => by rw [e, h.sub0] at hk; cases hk
      exact (h.mem hz false y).2 (Or.inr (Or.inr (h.closed n _ (by have := h.kid_lt hz (!false); omega) h0 u hk y hy)))

theorem Inv.kid_in (h : Inv T v sub seq) {z u y : Nat} (hz : z ≠ 0) (hu : u ∈ sub z) (hy : y ≠ 0) (e : (T y).up = u) : y ∈ sub z := by
  have hu0 := h.sub_ne hz hu
  obtain ⟨s, hs⟩ := h.kid y hy (by rw [e]; exact hu0)
  rw [e] at hs
  exact h.closed _ z (Nat.le_refl _) hz u hu y ((h.mem hu0 s y).2 (Or.inr (Or.inl (by rw [hs]; exact h.self hy))))

/-- The one above, of what is beneath. -/
theorem Inv.up_in (h : Inv T v sub seq) : ∀ (n z : Nat), (sub z).length ≤ n → z ≠ 0 → ∀ y, y ∈ sub z → y ≠ z → (T y).up ∈ sub z
  | 0, z, hn, _, y, hy, _ => by have := List.length_pos_of_mem hy; omega
  | n + 1, z, hn, hz, y, hy, hne => by
    have key : ∀ s, y ∈ sub ((T z).k s) → (T y).up ∈ sub z := fun s hk => by
      have h0 : (T z).k s ≠ 0 := fun e => by rw [e, h.sub0] at hk; cases hk
      by_cases e : y = (T z).k s
      · rw [e, h.upk z hz s h0]; exact h.self hz
      · exact (h.mem hz s _).2 (Or.inr (Or.inl (h.up_in n _ (by have := h.kid_lt hz s; omega) h0 y hk e)))
    rcases (h.mem hz false y).1 hy with rfl | hk | hk
    · exact absurd rfl hne
    · exact key _ hk
    · exact key _ hk

theorem Inv.parent (h : Inv T v sub seq) {z y : Nat} (hz : z ≠ 0) (hy : y ∈ sub z) (hne : y ≠ z) : (T y).up ∈ sub z := h.up_in _ z (Nat.le_refl _) hz y hy hne

theorem Inv.root_not (h : Inv T v sub seq) {z y : Nat} (hz : z ≠ 0) (hne : y ≠ z) (hu : (T y).up = 0) : y ∉ sub z := fun hy => h.sub_up hz hy hne hu

/-- The sequences behind a turn. -/
def revS (seq : Nat → List Nat) (x : Nat) : Nat → List Nat := fun y => if y ∈ seq x then (seq x).reverse else seq y

theorem Gd.turn (h : Gd N T v sub seq) {x : Nat} (hx : x ≠ 0) (hu : (T x).up = 0) (hxN : x < N) : ∃ sub', Gd N (turnT T x) v sub' (revS seq x) := by
  have hr := h.inv.root x hx hu
  have hT : ∀ y, turnT T x y = if y = x then { T x with t := !(T x).t } else T y := fun y => by
    rw [turnT_at]
    by_cases e : y = x <;> simp [e, hx]
  generalize turnT T x = T' at hT
  have up' : ∀ y, (T' y).up = (T y).up := fun y => by rw [hT]; split <;> simp_all
  have k' : ∀ y s, (T' y).k s = (T y).k s := fun y s => by
    rw [hT]
    split
    · next e => subst e; cases s <;> rfl
    · rfl
  have i := h.inv
  refine ⟨fun y => if y = x then (sub x).reverse else sub y, ⟨?_, ?_, fun y hy s => ?_, fun y hy s hk => ?_, fun y hy hu' => ?_, fun y => ?_, fun y hy => ?_, fun y => ?_, fun y hy hu' => ?_, fun y hy hu' => ?_⟩, fun y hy => ?_, h.pos, h.big⟩
  · rw [hT, if_neg (Ne.symm hx)]; exact i.none
  · rw [if_neg (Ne.symm hx)]; exact i.sub0
  · rw [k', k']
    have hkx : ∀ s, (T y).k s ≠ x := fun s e => by
      have := i.upk y hy s (by rw [e]; exact hx)
      rw [e, hu] at this
      exact hy this.symm
    simp only [hkx, if_false]
    by_cases e : y = x
    · subst e
      rw [if_pos rfl, hT, if_pos rfl]
      show _ = flp (!(T y).t) _
      rw [flp_not, ← i.eqn y hy s]
    · rw [if_neg e, hT, if_neg e]
      exact i.eqn y hy s
  · rw [k'] at hk ⊢
    rw [up']; exact i.upk y hy s hk
  · rw [up'] at hu' ⊢
    obtain ⟨s, hs⟩ := i.kid y hy hu'
    exact ⟨s, by rw [k']; exact hs⟩
  · split
    · rw [nodup_rev]; exact i.nd x
    · exact i.nd y
  · rw [hT]
    split
    · next e => subst e; exact i.val y hy
    · exact i.val y hy
  · rw [hT]
    split
    · exact (i.tal x).rev.of rfl rfl rfl rfl
    · exact i.tal y
  · rw [up'] at hu'
    unfold revS
    rw [hr]
    by_cases e : y = x
    · subst e
      rw [if_pos rfl, if_pos (i.self hy)]
    · rw [if_neg e, if_neg (i.root_not hx e hu')]
      exact i.root y hy hu'
  · rw [up'] at hu' ⊢
    have e := i.climb y hy hu'
    unfold revS
    have : y ∈ seq x ↔ (T y).up ∈ seq x := by rw [h.mem_iff hx hy, h.mem_iff hx hu', e]
    by_cases hm : y ∈ seq x
    · rw [if_pos hm, if_pos (this.1 hm)]
    · rw [if_neg hm, if_neg (fun e' => hm (this.2 e'))]
      exact e
  · rw [hT, if_neg (by omega)]
    exact h.zero y hy

/-- The sequences behind a cut. -/
def cutS (seq : Nat → List Nat) (A : List Nat) (x : Nat) (B : List Nat) : Nat → List Nat := fun y => if y ∈ A then A else if y ∈ x :: B then x :: B else seq y

/-- What 'shed' makes of the table. -/
def shedT (T : Tb) (x : Nat) : Tb := hangT (upd T (T x).l { T (T x).l with up := 0 }) x false 0

theorem Gd.shed (h : Gd N T v sub seq) {x : Nat} (hx : x ≠ 0) (hu : (T x).up = 0) (ht : (T x).t = false) (hxN : x < N) {L R : Nat} (eL : (T x).l = L) (eR : (T x).r = R) (hL : L ≠ 0) : ∃ sub', Gd N (shedT T x) v sub' (cutS seq (sub L) x (sub R)) := by
  have i := h.inv
  have hr := i.root x hx hu
  have ksf : (T x).k false = L := eL
  have kst : (T x).k true = R := eR
  have nLx : L ≠ x := by have := i.kid_ne hx false; rw [ksf] at this; exact this
  have nRx : R ≠ x := by have := i.kid_ne hx true; rw [kst] at this; exact this
  have nRL : R ≠ L := by have := i.kids hx false (by rw [ksf]; exact hL); rw [ksf, show (T x).k (!false) = R from kst] at this; exact this
  have uL : (T L).up = x := by have := i.upk x hx false (by rw [ksf]; exact hL); rw [ksf] at this; exact this
  have eqx : sub x = sub L ++ x :: sub R := by have := i.eqn x hx false; rw [ht, ksf, show (T x).k (!false) = R from kst] at this; exact this
  have LN : L < N := by rw [← eL]; exact h.l_lt x
  have hR0 : ∀ {y}, y ∈ sub R → R ≠ 0 := fun hy e => by rw [e, i.sub0] at hy; cases hy
  have ndx := i.nd x
  rw [eqx, List.nodup_append, List.nodup_cons] at ndx
  obtain ⟨nd1, ⟨nd2, nd3⟩, nd4⟩ := ndx
  have xL : x ∉ sub L := fun e => nd4 x e x List.mem_cons_self rfl
  have dLR : ∀ y, y ∈ sub L → y ∉ x :: sub R := fun y h1 h2 => nd4 y h1 y h2 rfl
  obtain ⟨T1, hT1⟩ : ∃ T1, upd T L { T L with up := 0 } = T1 := ⟨_, rfl⟩
  have o1 : ∀ y, y ≠ L → T1 y = T y := fun y hy => by rw [← hT1, upd_ne hy]
  have l1 : T1 L = { T L with up := 0 } := by rw [← hT1, upd_same]
  have es : shedT T x = hangT T1 x false 0 := by unfold shedT; rw [eL, hT1]
  rw [es]
  have x1 : T1 x = T x := o1 x nLx.symm
  have self := hangT_self (T := T1) (x := x) (k := 0) (s := false) (Ne.symm hx)
  rw [x1] at self
  have tal' : Tal (hangT T1 x false 0 x) v (cat false [] x (sub R)) :=
    hangT_tal (Ne.symm hx) (by rw [x1]; exact kst) nRx (by rw [x1]; exact i.val x hx) (by rw [o1 0 (Ne.symm hL)]; have := i.tal 0; rw [i.sub0] at this; exact this) (by rw [o1 R nRL]; exact i.tal R) (by have := h.len3 R; simp; omega)
  have o2 : ∀ y, y ≠ x → hangT T1 x false 0 y = T1 y := fun y hy => hangT_other hy (fun e => absurd rfl e)
  generalize hangT T1 x false 0 = T2 at self tal' o2
  have l2 : T2 L = { T L with up := 0 } := by rw [o2 L nLx, l1]
  have oo : ∀ y, y ≠ x → y ≠ L → T2 y = T y := fun y h1 h2 => by rw [o2 y h1, o1 y h2]
  have k2 : ∀ y, y ≠ x → ∀ s, (T2 y).k s = (T y).k s := fun y hy s => by
    by_cases e : y = L
    · rw [e, l2]; cases s <;> rfl
    · rw [oo y hy e]
  have nkx : ∀ y, y ≠ 0 → ∀ s, (T y).k s ≠ x := fun y hy s e => by
    have := i.upk y hy s (by rw [e]; exact hx)
    rw [e, hu] at this
    exact hy this.symm
  refine ⟨fun y => if y = x then x :: sub R else sub y, ⟨?_, ?_, fun y hy => ?_, fun y hy s hk => ?_, fun y hy hu' => ?_, fun y => ?_, fun y hy => ?_, fun y => ?_, fun y hy hu' => ?_, fun y hy hu' => ?_⟩, fun y hy => ?_, h.pos, h.big⟩
  · rw [oo 0 (Ne.symm hx) (Ne.symm hL)]; exact i.none
  · rw [if_neg (Ne.symm hx)]; exact i.sub0
  · by_cases e : y = x
    · subst e
      refine eqn_side (sub := fun d => if d = y then y :: sub R else sub d) false ?_
      try dsimp only
      rw [if_pos rfl, self.2.2.2.1, ht, self.1, self.2.1]
      show _ = flp false (cat false _ y _)
      rw [show (T y).k (!false) = R from kst, if_neg (Ne.symm hx), i.sub0, if_neg nRx]
      rfl
    · intro s
      rw [if_neg e, k2 y e, k2 y e, if_neg (nkx y hy s), if_neg (nkx y hy (!s))]
      have et : (T2 y).t = (T y).t := by
        by_cases e2 : y = L
        · rw [e2, l2]
        · rw [oo y e e2]
      rw [et]
      exact i.eqn y hy s
  · have upo : ∀ d, d ≠ x → d ≠ L → (T2 d).up = (T d).up := fun d h1 h2 => by rw [oo d h1 h2]
    by_cases e : y = x
    · subst e
      cases s
      · rw [self.1] at hk; exact absurd rfl hk
      · have e1 : (T2 y).k true = R := self.2.1.trans kst
        rw [e1] at hk ⊢
        rw [upo R nRx nRL]
        have := i.upk y hy true (by rw [kst]; exact hk)
        rw [kst] at this
        exact this
    · rw [k2 y e] at hk ⊢
      have := i.upk y hy s hk
      rw [upo _ (nkx y hy s) (fun e' => by rw [e', uL] at this; exact e this.symm)]
      exact this
  · have e1 : y ≠ x := fun e => by rw [e, self.2.2.1, hu] at hu'; exact hu' rfl
    have e2 : y ≠ L := fun e => by rw [e, l2] at hu'; exact hu' rfl
    rw [oo y e1 e2] at hu' ⊢
    obtain ⟨s, hs⟩ := i.kid y hy hu'
    by_cases e : (T y).up = x
    · rw [e] at hs ⊢
      cases s
      · exact absurd (hs.symm.trans ksf) e2
      · exact ⟨true, by rw [← hs, kst]; exact self.2.1.trans kst⟩
    · exact ⟨s, by rw [k2 _ e]; exact hs⟩
  · split
    · exact List.nodup_cons.2 ⟨nd2, nd3⟩
    · exact i.nd y
  · by_cases e : y = x
    · subst e; rw [self.2.2.2.2]; exact i.val y hy
    · by_cases e2 : y = L
      · rw [e2, l2]; exact i.val L hL
      · rw [oo y e e2]; exact i.val y hy
  · by_cases e : y = x
    · subst e; rw [if_pos rfl]; exact tal'
    · rw [if_neg e]
      by_cases e2 : y = L
      · rw [e2, l2]; exact (i.tal L).of rfl rfl rfl rfl
      · rw [oo y e e2]; exact i.tal y
  · unfold cutS
    by_cases e : y = x
    · subst e
      rw [if_pos rfl, if_neg xL, if_pos List.mem_cons_self]
    · rw [if_neg e]
      by_cases e2 : y = L
      · rw [e2, if_pos (i.self hL)]
      · rw [oo y e e2] at hu'
        have hny := i.root_not hx e hu'
        rw [eqx] at hny
        rw [if_neg (fun e' => hny (List.mem_append.2 (Or.inl e'))), if_neg (fun e' => hny (List.mem_append.2 (Or.inr e')))]
        exact i.root y hy hu'
  · have e1 : y ≠ x := fun e => by rw [e, self.2.2.1, hu] at hu'; exact hu' rfl
    have e2 : y ≠ L := fun e => by rw [e, l2] at hu'; exact hu' rfl
    rw [oo y e1 e2] at hu' ⊢
    have hA : y ∈ sub L ↔ (T y).up ∈ sub L := ⟨fun e => i.parent hL e e2, fun e => i.kid_in hL e hy rfl⟩
    have hB : y ∈ x :: sub R ↔ (T y).up ∈ x :: sub R := by
      constructor
      · intro e
        rcases List.mem_cons.1 e with e | e
        · exact absurd e e1
        · by_cases e3 : y = R
          · have hR := hR0 e
            have := i.upk x hx true (by rw [kst]; exact hR)
            rw [kst] at this
            rw [e3, this]; exact List.mem_cons_self
          · exact List.mem_cons_of_mem _ (i.parent (hR0 e) e e3)
      · intro e
        rcases List.mem_cons.1 e with e | e
        · obtain ⟨s, hs⟩ := i.kid y hy hu'
          rw [e] at hs
          cases s
          · exact absurd (hs.symm.trans ksf) e2
          · have : y = R := hs.symm.trans kst
            have hR : R ≠ 0 := this ▸ hy
            exact List.mem_cons_of_mem _ (by rw [this]; exact i.self hR)
        · exact List.mem_cons_of_mem _ (i.kid_in (hR0 e) e hy rfl)
    unfold cutS
    by_cases h1 : y ∈ sub L
    · rw [if_pos h1, if_pos (hA.1 h1)]
    · rw [if_neg h1, if_neg (fun e => h1 (hA.2 e))]
      by_cases h2 : y ∈ x :: sub R
      · rw [if_pos h2, if_pos (hB.1 h2)]
      · rw [if_neg h2, if_neg (fun e => h2 (hB.2 e))]
        exact i.climb y hy hu'
  · rw [oo y (by omega) (by omega)]
    exact h.zero y hy

/-- The sequences behind a join. -/
def joinS (seq : Nat → List Nat) (a b : Nat) : Nat → List Nat := fun y => if y ∈ seq a ∨ y ∈ seq b then seq a ++ seq b else seq y

theorem Gd.join (h : Gd N T v sub seq) {p q : Nat} (hp : p ≠ 0) (hq : q ≠ 0) (up : (T p).up = 0) (uq : (T q).up = 0) (tp : (T p).t = false) (rp : (T p).r = 0) (hne : seq p ≠ seq q) (hpN : p < N) (hqN : q < N) : ∃ sub', Gd N (hangT T p true q) v sub' (joinS seq p q) := by
  have i := h.inv
  have sp := i.root p hp up
  have sq := i.root q hq uq
  have npq : q ≠ p := fun e => hne (by rw [e])
  obtain ⟨L, eL⟩ : ∃ L, (T p).l = L := ⟨_, rfl⟩
  have ksf : (T p).k false = L := eL
  have kst : (T p).k true = 0 := rp
  have nLp : L ≠ p := by have := i.kid_ne hp false; rw [ksf] at this; exact this
  have eqp : sub p = sub L ++ [p] := by have := i.eqn p hp false; rw [tp, ksf, show (T p).k (!false) = 0 from kst, i.sub0] at this; exact this
  have self := hangT_self (T := T) (x := p) (k := q) (s := true) npq
  have tal' : Tal (hangT T p true q p) v (cat true (sub q) p (sub L)) := hangT_tal npq (show (T p).k (!true) = L from eL) nLp (i.val p hp) (i.tal q) (i.tal L) (by have := h.len3 q; have := h.len3 L; omega)
  have q2 : hangT T p true q q = { T q with up := p } := hangT_kid hq npq
  have oo : ∀ y, y ≠ p → y ≠ q → hangT T p true q y = T y := fun y h1 h2 => hangT_other h1 (fun _ => h2)
  generalize hangT T p true q = T2 at self tal' q2 oo
  have dis : ∀ y, y ∈ sub p → y ∉ sub q := fun y h1 h2 => hne ((i.sub_seq hp h1).symm.trans (i.sub_seq hq h2))
  have k2 : ∀ y, y ≠ p → ∀ s, (T2 y).k s = (T y).k s := fun y hy s => by
    by_cases e : y = q
    · rw [e, q2]; cases s <;> rfl
    · rw [oo y hy e]
  have nkp : ∀ y, y ≠ 0 → ∀ s, (T y).k s ≠ p := fun y hy s e => by
    have := i.upk y hy s (by rw [e]; exact hp)
    rw [e, up] at this
    exact hy this.symm
  have nkq : ∀ y, y ≠ 0 → ∀ s, (T y).k s ≠ q := fun y hy s e => by
    have := i.upk y hy s (by rw [e]; exact hq)
    rw [e, uq] at this
    exact hy this.symm
  refine ⟨fun y => if y = p then sub p ++ sub q else sub y, ⟨?_, ?_, fun y hy => ?_, fun y hy s hk => ?_, fun y hy hu' => ?_, fun y => ?_, fun y hy => ?_, fun y => ?_, fun y hy hu' => ?_, fun y hy hu' => ?_⟩, fun y hy => ?_, h.pos, h.big⟩
  · rw [oo 0 (Ne.symm hp) (Ne.symm hq)]; exact i.none
  · rw [if_neg (Ne.symm hp)]; exact i.sub0
  · by_cases e : y = p
    · subst e
      refine eqn_side (sub := fun d => if d = y then sub y ++ sub q else sub d) true ?_
      try dsimp only
      rw [if_pos rfl, self.2.2.2.1, tp, self.1, self.2.1]
      show _ = flp false (cat true _ y _)
      rw [show (T y).k (!true) = L from eL, if_neg npq, if_neg nLp, eqp]
      simp [flp, cat]
    · intro s
      rw [if_neg e, k2 y e, k2 y e, if_neg (nkp y hy s), if_neg (nkp y hy (!s))]
      have et : (T2 y).t = (T y).t := by
        by_cases e2 : y = q
        · rw [e2, q2]
        · rw [oo y e e2]
      rw [et]
      exact i.eqn y hy s
  · by_cases e : y = p
    · subst e
      cases s
      · have e1 : (T2 y).k false = L := self.2.1.trans ksf
        rw [e1] at hk ⊢
        have hLq : L ≠ q := by rw [← ksf]; exact nkq y hy false
        rw [oo L nLp hLq]
        have := i.upk y hy false (by rw [ksf]; exact hk)
        rw [ksf] at this
        exact this
      · rw [self.1, q2]
    · rw [k2 y e] at hk ⊢
      rw [oo _ (nkp y hy s) (nkq y hy s)]
      exact i.upk y hy s hk
  · by_cases e1 : y = p
    · rw [e1, self.2.2.1, up] at hu'; exact absurd rfl hu'
    · by_cases e2 : y = q
      · rw [e2, q2]; exact ⟨true, self.1⟩
      · rw [oo y e1 e2] at hu' ⊢
        obtain ⟨s, hs⟩ := i.kid y hy hu'
        by_cases e : (T y).up = p
        · rw [e] at hs ⊢
          cases s
          · exact ⟨false, by rw [← hs]; exact self.2.1⟩
          · rw [kst] at hs; exact absurd hs.symm hy
        · exact ⟨s, by rw [k2 _ e]; exact hs⟩
  · split
    · rw [List.nodup_append]
      exact ⟨i.nd p, i.nd q, fun a ha b hb e => dis a ha (e ▸ hb)⟩
    · exact i.nd y
  · by_cases e : y = p
    · subst e; rw [self.2.2.2.2]; exact i.val y hy
    · by_cases e2 : y = q
      · rw [e2, q2]; exact i.val q hq
      · rw [oo y e e2]; exact i.val y hy
  · by_cases e : y = p
    · subst e
      rw [if_pos rfl, eqp]
      have : cat true (sub q) y (sub L) = sub L ++ [y] ++ sub q := by simp [cat]
      rw [← this]; exact tal'
    · rw [if_neg e]
      by_cases e2 : y = q
      · rw [e2, q2]; exact (i.tal q).of rfl rfl rfl rfl
      · rw [oo y e e2]; exact i.tal y
  · unfold joinS
    rw [sp, sq]
    by_cases e : y = p
    · subst e
      rw [if_pos rfl, if_pos (Or.inl (i.self hy))]
    · by_cases e2 : y = q
      · rw [e2, q2] at hu'; exact absurd hu' hp
      · rw [oo y e e2] at hu'
        rw [if_neg e, if_neg (fun e' => by rcases e' with e' | e'; exact i.root_not hp e hu' e'; exact i.root_not hq e2 hu' e')]
        exact i.root y hy hu'
  · unfold joinS
    rw [sp, sq]
    have e1 : y ≠ p := fun e => by rw [e, self.2.2.1, up] at hu'; exact hu' rfl
    by_cases e2 : y = q
    · rw [e2, q2]
      rw [if_pos (Or.inr (i.self hq)), if_pos (Or.inl (i.self hp))]
    · rw [oo y e1 e2] at hu' ⊢
      have hA : y ∈ sub p ↔ (T y).up ∈ sub p := ⟨fun e => i.parent hp e e1, fun e => i.kid_in hp e hy rfl⟩
      have hB : y ∈ sub q ↔ (T y).up ∈ sub q := ⟨fun e => i.parent hq e e2, fun e => i.kid_in hq e hy rfl⟩
      by_cases h1 : y ∈ sub p ∨ y ∈ sub q
      · rw [if_pos h1, if_pos (h1.imp hA.1 hB.1)]
      · rw [if_neg h1, if_neg (fun e => h1 (e.imp hA.2 hB.2))]
        exact i.climb y hy hu'
  · rw [oo y (by omega) (by omega)]
    exact h.zero y hy

/-- A value set at the top. -/
def setV (v : Nat → Int) (x : Nat) (z : Int) : Nat → Int := fun y => if y = x then z else v y

theorem sumV_congr {v v' : Nat → Int} : ∀ {l : List Nat}, (∀ y ∈ l, v y = v' y) → sumV v l = sumV v' l ∧ lowV v l = lowV v' l ∧ highV v l = highV v' l
  | [], _ => ⟨rfl, rfl, rfl⟩
  | x :: l, h => by
    obtain ⟨h1, h2, h3⟩ := sumV_congr (l := l) (fun y hy => h y (List.mem_cons_of_mem _ hy))
    have h0 := h x List.mem_cons_self
    simp only [sumV, lowV, highV, h0, h1, h2, h3, and_self]

theorem Gd.setv (h : Gd N T v sub seq) {x : Nat} (hx : x ≠ 0) (hu : (T x).up = 0) (hxN : x < N) (z : Int) : ∃ sub', Gd N (tallyT (upd T x { T x with v := z }) x) (setV v x z) sub' seq := by
  have i := h.inv
  have nl : (T x).l ≠ x := i.kid_ne hx false
  have nr : (T x).r ≠ x := i.kid_ne hx true
  have hT : ∀ y, tallyT (upd T x { T x with v := z }) x y = if y = x then tally { T x with v := z } (T (T x).l) (T (T x).r) else T y := fun y => by
    unfold tallyT
    by_cases e : y = x
    · subst e
      rw [upd_same, upd_same, if_pos rfl]
      show tally _ (upd T y _ (T y).l) (upd T y _ (T y).r) = _
      rw [upd_ne nl, upd_ne nr]
    · rw [upd_ne e, upd_ne e, if_neg e]
  generalize tallyT (upd T x { T x with v := z }) x = T' at hT
  have up' : ∀ y, (T' y).up = (T y).up := fun y => by
    rw [hT]
    split
    · next e => rw [e]; rfl
    · rfl
  have k' : ∀ y s, (T' y).k s = (T y).k s := fun y s => by
    rw [hT]
    split
    · next e => rw [e, tally_k]; cases s <;> rfl
    · rfl
  have t' : ∀ y, (T' y).t = (T y).t := fun y => by
    rw [hT]
    split
    · next e => rw [e]; rfl
    · rfl
  have tl : ∀ y, y ≠ x → Tal (T y) (setV v x z) (sub y) := fun y hy => by
    by_cases h0 : y = 0
    · have := i.tal y
      rw [h0, i.sub0] at this ⊢
      exact ⟨this.rest, this.s, this.lo, this.hi⟩
    · have hn := i.root_not h0 (Ne.symm hy) hu
      obtain ⟨e1, e2, e3⟩ := sumV_congr (v := setV v x z) (v' := v) (l := sub y) (fun d hd => by unfold setV; rw [if_neg (fun e : d = x => hn (e ▸ hd))])
      have := i.tal y
      exact ⟨this.rest, by rw [e1]; exact this.s, by rw [e2]; exact this.lo, by rw [e3]; exact this.hi⟩
  refine ⟨sub, ⟨?_, i.sub0, fun y hy s => ?_, fun y hy s hk => ?_, fun y hy hu' => ?_, i.nd, fun y hy => ?_, fun y => ?_, fun y hy hu' => ?_, fun y hy hu' => ?_⟩, fun y hy => ?_, h.pos, h.big⟩
  · rw [hT, if_neg (Ne.symm hx)]; exact i.none
  · rw [k', k', t']; exact i.eqn y hy s
  · rw [k'] at hk ⊢
    rw [up']; exact i.upk y hy s hk
  · rw [up'] at hu' ⊢
    obtain ⟨s, hs⟩ := i.kid y hy hu'
    exact ⟨s, by rw [k']; exact hs⟩
  · rw [hT]
    split
    · next e => subst e; simp [tally, setV]
    · next e => simp [setV, e]; exact i.val y hy
  · by_cases e : y = x
    · subst e
      rw [hT, if_pos rfl, i.eqn y hx false]
      exact (tally_tal (n := { T y with v := z }) (v := setV v y z) (x := y) (by simp [setV]) (tl _ nl) (tl _ nr) (by have := h.len3 (T y).l; have := h.len3 (T y).r; omega) false).1.flp _
    · rw [hT, if_neg e]; exact tl y e
  · rw [up'] at hu'; exact i.root y hy hu'
  · rw [up'] at hu' ⊢; exact i.climb y hy hu'
  · rw [hT, if_neg (by omega)]; exact h.zero y hy

end Go.Proofs.YtdmkbcbgjdmgdaaGreatDoor.Ct

namespace Go.Proofs.YtdmkbcbgjdmgdaaGreatDoor.Ct
open Go.RowKit
set_option linter.unusedVariables false

variable {T T' : Tb} {v : Nat → Int} {sub sub' seq : Nat → List Nat} {N : Nat} {pp pp' par par' : Nat → Nat}

def rn (pp : Nat → Nat) (x : Nat) (n : Nd) : Nd := { n with up := if n.up = 0 then pp x else n.up }
/-- The table as it is kept: above a stretch's top is what the stretch hangs on. -/
def real (T : Tb) (pp : Nat → Nat) : Tb := fun x => rn pp x (T x)

theorem real_up0 {x : Nat} (h : (T x).up = 0) : (real T pp x).up = pp x := if_pos h
theorem real_up1 {x : Nat} (h : (T x).up ≠ 0) : (real T pp x).up = (T x).up := if_neg h
theorem real_k (x : Nat) (s : Bool) : (real T pp x).k s = (T x).k s := by cases s <;> rfl

theorem real_upd (x : Nat) (n : Nd) : real (upd T x n) pp = upd (real T pp) x (rn pp x n) := by
  funext y
  unfold real upd
  by_cases e : y = x
  · simp only [e, if_true]
  · simp only [e, if_false]

theorem rn_setK (x : Nat) (n : Nd) (s : Bool) (k : Nat) : rn pp x (n.setK s k) = (rn pp x n).setK s k := by cases s <;> rfl

theorem real_put {x k : Nat} (s : Bool) (hx : x ≠ 0) : real (putT T x s k) pp = putT (real T pp) x s k := by
  unfold putT
  split
  · rw [real_upd, rn_setK]; rfl
  · rw [real_upd, real_upd, rn_setK]
    have : rn pp k { T k with up := x } = { real T pp k with up := x } := by
      unfold real rn
      dsimp only
      rw [if_neg hx]
    rw [this]; rfl

theorem real_tally (x : Nat) : real (tallyT T x) pp = tallyT (real T pp) x := by
  unfold tallyT
  rw [real_upd]; rfl

theorem real_hang {x k : Nat} (s : Bool) (hx : x ≠ 0) : real (hangT T x s k) pp = hangT (real T pp) x s k := by
  unfold hangT
  rw [real_tally, real_put s hx]

theorem real_turn (x : Nat) : real (turnT T x) pp = turnT (real T pp) x := by
  unfold turnT
  split
  · rfl
  · rw [real_upd]; rfl

theorem real_settle (x : Nat) : real (settleT T x) pp = settleT (real T pp) x := by
  unfold settleT
  show _ = if (T x).t then turnT (turnT (upd (real T pp) x (swapN (real T pp x))) (T x).r) (T x).l else real T pp
  split
  · rw [real_turn, real_turn, real_upd]; rfl
  · rfl

/-- Only what a top hangs on is kept. -/
theorem real_congr (h : ∀ y, (T y).up = 0 → pp' y = pp y) : real T pp' = real T pp := by
  funext y
  unfold real rn
  by_cases e : (T y).up = 0
  · rw [h y e]
  · rw [if_neg e, if_neg e]

theorem putT_congr {U V : Tb} {x k y : Nat} {s : Bool} (h : ∀ y, y ≠ x → V y = U y) (hkx : k ≠ x) (hy : y ≠ x) : putT V x s k y = putT U x s k y := by
  by_cases hk : k = 0
  · unfold putT; rw [if_pos hk, if_pos hk, upd_ne hy, upd_ne hy, h y hy]
  · unfold putT
    rw [if_neg hk, if_neg hk]
    by_cases e : y = k
    · rw [e, upd_same, upd_same, h k hkx]
    · rw [upd_ne e, upd_ne e, upd_ne hy, upd_ne hy, h y hy]

theorem hang_hang {U : Tb} {x k : Nat} (hx : x ≠ 0) (hkx : k ≠ x) (ho : (U x).l ≠ x) : hangT (hangT U x true 0) x true k = hangT U x true k := by
  obtain ⟨V, hV⟩ : ∃ V, hangT U x true 0 = V := ⟨_, rfl⟩
  have hVo : ∀ y, y ≠ x → V y = U y := fun y hy => by rw [← hV]; exact hangT_other hy (fun e => absurd rfl e)
  have hVx : ∃ a b, V x = tally ((U x).setK true 0) a b := ⟨_, _, by
    rw [← hV]
    unfold hangT tallyT
    rw [upd_same, putT_x (Ne.symm hx)]⟩
  obtain ⟨a, b, hVx⟩ := hVx
  rw [hV]
  funext y
  unfold hangT tallyT
  by_cases e : y = x
  · rw [e, upd_same, upd_same, putT_x hkx, putT_x hkx, hVx]
    show tally _ (putT V x true k (U x).l) (putT V x true k k) = tally _ (putT U x true k (U x).l) (putT U x true k k)
    rw [putT_congr hVo hkx ho, putT_congr hVo hkx hkx]
    rfl
  · rw [upd_ne e, upd_ne e, putT_congr hVo hkx e]

/-- Nothing hung where nothing is. -/
theorem Gd.hang0 (h : Gd N T v sub seq) {x : Nat} (hx : x ≠ 0) (hr : (T x).r = 0) : hangT T x true 0 = T := by
  have i := h.inv
  funext y
  by_cases e : y = x
  · subst e
    have self := hangT_self (T := T) (x := y) (k := 0) (s := true) (Ne.symm hx)
    have eqn := i.eqn y hx true
    rw [show (T y).k true = 0 from hr, i.sub0] at eqn
    have tal := (hangT_tal (T := T) (v := v) (x := y) (k := 0) (s := true) (Ne.symm hx) (o := (T y).l) rfl (i.kid_ne hx false) (i.val y hx) (by have := i.tal 0; rw [i.sub0] at this; exact this) (i.tal (T y).l) (by have := h.len3 (T y).l; simp; omega)).flp (T y).t
    rw [show sub (T y).l = sub ((T y).k (!true)) from rfl, ← eqn] at tal
    have old := i.tal y
    obtain ⟨s1, s2, s3, s4, s5⟩ := self
    generalize hangT T y true 0 y = n at s1 s2 s3 s4 s5 tal
    have e1 := tal.rest.trans old.rest.symm
    have e2 := tal.s.trans old.s.symm
    have e3 := tal.lo.trans old.lo.symm
    have e4 := tal.hi.trans old.hi.symm
    have e5 : n.r = (T y).r := s1.trans hr.symm
    have e6 : n.l = (T y).l := s2
    generalize T y = m at *
    cases n
    cases m
    simp_all
  · exact hangT_other e (fun e => absurd rfl e)

/-- What 'shed' makes of the table. -/
def looseT (T : Tb) (x : Nat) (s : Bool) : Tb := hangT (upd T ((T x).k s) { T ((T x).k s) with up := 0 }) x s 0
def cutP (seq : Nat → List Nat) (A B : List Nat) : Nat → List Nat := fun y => if y ∈ A then A else if y ∈ B then B else seq y

theorem cat_parts {s : Bool} {A B : List Nat} {x : Nat} (h : (cat s A x B).Nodup) : A.Nodup ∧ (cat s [] x B).Nodup ∧ ∀ y, y ∈ A → y ∉ cat s [] x B := by
  cases s
  · simp only [cat, Bool.false_eq_true, ↓reduceIte, List.nodup_append, List.nil_append] at h ⊢
    exact ⟨h.1, h.2.1, fun y h1 h2 => h.2.2 y h1 y h2 rfl⟩
  · simp only [cat, ↓reduceIte] at h ⊢
    rw [show B ++ x :: A = (B ++ [x]) ++ A from by simp, List.nodup_append] at h
    exact ⟨h.2.1, h.1, fun y h1 h2 => h.2.2 y h2 y h1 rfl⟩

theorem Gd.shedS (h : Gd N T v sub seq) {x : Nat} (s : Bool) (hx : x ≠ 0) (hu : (T x).up = 0) (ht : (T x).t = false) (hxN : x < N) {K O : Nat} (eK : (T x).k s = K) (eO : (T x).k (!s) = O) (hK : K ≠ 0) :
    (∃ sub', Gd N (looseT T x s) v sub' (cutP seq (sub K) (cat s [] x (sub O)))) ∧ (looseT T x s x).k s = 0 ∧ (looseT T x s x).k (!s) = O ∧ (looseT T x s x).up = 0 ∧ (looseT T x s x).t = false ∧ (∀ y, y ≠ x → y ≠ K → looseT T x s y = T y) ∧ looseT T x s K = { T K with up := 0 } ∧ looseT T x s = hangT (upd T K { T K with up := 0 }) x s 0 := by
  have i := h.inv
  have hr := i.root x hx hu
  have nKx : K ≠ x := by have := i.kid_ne hx s; rw [eK] at this; exact this
  have nOx : O ≠ x := by have := i.kid_ne hx (!s); rw [eO] at this; exact this
  have nOK : O ≠ K := by have := i.kids hx s (by rw [eK]; exact hK); rw [eK, eO] at this; exact this
  have uK : (T K).up = x := by have := i.upk x hx s (by rw [eK]; exact hK); rw [eK] at this; exact this
  have eqx : sub x = cat s (sub K) x (sub O) := by have := i.eqn x hx s; rw [ht, eK, eO] at this; exact this
  have KN : K < N := by rw [← eK]; exact h.k_lt x s
  have hO0 : ∀ {y}, y ∈ sub O → O ≠ 0 := fun hy e => by rw [e, i.sub0] at hy; cases hy
  have ndx := i.nd x
  rw [eqx] at ndx
  obtain ⟨nd1, nd2, nd3⟩ := cat_parts ndx
  have mM : ∀ y, y ∈ cat s [] x (sub O) ↔ y = x ∨ y ∈ sub O := fun y => by rw [cat_mem]; simp
  have xM : x ∈ cat s [] x (sub O) := (mM x).2 (Or.inl rfl)
  have xK : x ∉ sub K := fun e => nd3 x e xM
  obtain ⟨T1, hT1⟩ : ∃ T1, upd T K { T K with up := 0 } = T1 := ⟨_, rfl⟩
  have o1 : ∀ y, y ≠ K → T1 y = T y := fun y hy => by rw [← hT1, upd_ne hy]
  have l1 : T1 K = { T K with up := 0 } := by rw [← hT1, upd_same]
  have es : looseT T x s = hangT T1 x s 0 := by show hangT (upd T ((T x).k s) { T ((T x).k s) with up := 0 }) x s 0 = _; rw [eK, hT1]
  rw [es, hT1]
  have x1 : T1 x = T x := o1 x nKx.symm
  have self := hangT_self (T := T1) (x := x) (k := 0) (s := s) (Ne.symm hx)
  rw [x1, eO] at self
  have tal' : Tal (hangT T1 x s 0 x) v (cat s [] x (sub O)) :=
    hangT_tal (Ne.symm hx) (by rw [x1]; exact eO) nOx (by rw [x1]; exact i.val x hx) (by rw [o1 0 (Ne.symm hK)]; have := i.tal 0; rw [i.sub0] at this; exact this) (by rw [o1 O nOK]; exact i.tal O) (by have := h.len3 O; simp; omega)
  have o2 : ∀ y, y ≠ x → hangT T1 x s 0 y = T1 y := fun y hy => hangT_other hy (fun e => absurd rfl e)
  refine ⟨?_, self.1, self.2.1, self.2.2.1.trans hu, self.2.2.2.1.trans ht, fun y h1 h2 => (o2 y h1).trans (o1 y h2), (o2 K nKx).trans l1, rfl⟩
  generalize hangT T1 x s 0 = T2 at self tal' o2
  have l2 : T2 K = { T K with up := 0 } := by rw [o2 K nKx, l1]
  have oo : ∀ y, y ≠ x → y ≠ K → T2 y = T y := fun y h1 h2 => by rw [o2 y h1, o1 y h2]
  have k2 : ∀ y, y ≠ x → ∀ s, (T2 y).k s = (T y).k s := fun y hy s => by
    by_cases e : y = K
    · rw [e, l2]; cases s <;> rfl
    · rw [oo y hy e]
  have nkx : ∀ y, y ≠ 0 → ∀ s, (T y).k s ≠ x := fun y hy s e => by
    have := i.upk y hy s (by rw [e]; exact hx)
    rw [e, hu] at this
    exact hy this.symm
  refine ⟨fun y => if y = x then cat s [] x (sub O) else sub y, ⟨?_, ?_, fun y hy => ?_, fun y hy s0 hk => ?_, fun y hy hu' => ?_, fun y => ?_, fun y hy => ?_, fun y => ?_, fun y hy hu' => ?_, fun y hy hu' => ?_⟩, fun y hy => ?_, h.pos, h.big⟩
  · rw [oo 0 (Ne.symm hx) (Ne.symm hK)]; exact i.none
  · rw [if_neg (Ne.symm hx)]; exact i.sub0
  · by_cases e : y = x
    · subst e
      refine eqn_side (sub := fun d => if d = y then cat s [] y (sub O) else sub d) s ?_
      try dsimp only
      rw [if_pos rfl, self.2.2.2.1, ht, self.1, self.2.1, if_neg (Ne.symm hx), i.sub0, if_neg nOx]
      rfl
    · intro s0
      rw [if_neg e, k2 y e, k2 y e, if_neg (nkx y hy s0), if_neg (nkx y hy (!s0))]
      have et : (T2 y).t = (T y).t := by
        by_cases e2 : y = K
        · rw [e2, l2]
        · rw [oo y e e2]
      rw [et]
      exact i.eqn y hy s0
  · have upo : ∀ d, d ≠ x → d ≠ K → (T2 d).up = (T d).up := fun d h1 h2 => by rw [oo d h1 h2]
    by_cases e : y = x
    · subst e
      by_cases e0 : s0 = s
      · rw [e0, self.1] at hk; exact absurd rfl hk
      · have e0 : s0 = !s := by cases s <;> cases s0 <;> simp_all
        rw [e0, self.2.1] at hk ⊢
        rw [upo O nOx nOK]
        have := i.upk y hy (!s) (by rw [eO]; exact hk)
        rw [eO] at this
        exact this
    · rw [k2 y e] at hk ⊢
      have := i.upk y hy s0 hk
      rw [upo _ (nkx y hy s0) (fun e' => by rw [e', uK] at this; exact e this.symm)]
      exact this
  · have e1 : y ≠ x := fun e => by rw [e, self.2.2.1, hu] at hu'; exact hu' rfl
    have e2 : y ≠ K := fun e => by rw [e, l2] at hu'; exact hu' rfl
    rw [oo y e1 e2] at hu' ⊢
    obtain ⟨s0, hs⟩ := i.kid y hy hu'
    by_cases e : (T y).up = x
    · rw [e] at hs ⊢
      by_cases e0 : s0 = s
      · rw [e0, eK] at hs; exact absurd hs.symm e2
      · have e0 : s0 = !s := by cases s <;> cases s0 <;> simp_all
        exact ⟨!s, by rw [← hs, e0]; exact self.2.1.trans eO.symm⟩
    · exact ⟨s0, by rw [k2 _ e]; exact hs⟩
  · split
    · exact nd2
    · exact i.nd y
  · by_cases e : y = x
    · subst e; rw [self.2.2.2.2]; exact i.val y hy
    · by_cases e2 : y = K
      · rw [e2, l2]; exact i.val K hK
      · rw [oo y e e2]; exact i.val y hy
  · by_cases e : y = x
    · subst e; rw [if_pos rfl]; exact tal'
    · rw [if_neg e]
      by_cases e2 : y = K
      · rw [e2, l2]; exact (i.tal K).of rfl rfl rfl rfl
      · rw [oo y e e2]; exact i.tal y
  · unfold cutP
    by_cases e : y = x
    · subst e
      rw [if_pos rfl, if_neg xK, if_pos xM]
    · rw [if_neg e]
      by_cases e2 : y = K
      · rw [e2, if_pos (i.self hK)]
      · rw [oo y e e2] at hu'
        have hny := i.root_not hx e hu'
        rw [eqx, cat_mem] at hny
        rw [if_neg (fun e' => hny (Or.inr (Or.inl e'))), if_neg (fun e' => hny (by rcases (mM y).1 e' with e3 | e3; exact Or.inl e3; exact Or.inr (Or.inr e3)))]
        exact i.root y hy hu'
  · have e1 : y ≠ x := fun e => by rw [e, self.2.2.1, hu] at hu'; exact hu' rfl
    have e2 : y ≠ K := fun e => by rw [e, l2] at hu'; exact hu' rfl
    rw [oo y e1 e2] at hu' ⊢
    have hA : y ∈ sub K ↔ (T y).up ∈ sub K := ⟨fun e => i.parent hK e e2, fun e => i.kid_in hK e hy rfl⟩
    have hB : y ∈ cat s [] x (sub O) ↔ (T y).up ∈ cat s [] x (sub O) := by
      rw [mM, mM]
      constructor
      · rintro (e | e)
        · exact absurd e e1
        · by_cases e3 : y = O
          · have hR := hO0 e
            have := i.upk x hx (!s) (by rw [eO]; exact hR)
            rw [eO] at this
            rw [e3]; exact Or.inl this
          · exact Or.inr (i.parent (hO0 e) e e3)
      · rintro (e | e)
        · obtain ⟨s0, hs⟩ := i.kid y hy hu'
          rw [e] at hs
          by_cases e0 : s0 = s
          · rw [e0, eK] at hs; exact absurd hs.symm e2
          · have e0 : s0 = !s := by cases s <;> cases s0 <;> simp_all
            rw [e0, eO] at hs
            have hR : O ≠ 0 := by rw [hs]; exact hy
            exact Or.inr (by rw [← hs]; exact i.self hR)
        · exact Or.inr (i.kid_in (hO0 e) e hy rfl)
    unfold cutP
    by_cases h1 : y ∈ sub K
    · rw [if_pos h1, if_pos (hA.1 h1)]
    · rw [if_neg h1, if_neg (fun e => h1 (hA.2 e))]
      by_cases h2 : y ∈ cat s [] x (sub O)
      · rw [if_pos h2, if_pos (hB.1 h2)]
      · rw [if_neg h2, if_neg (fun e => h2 (hB.2 e))]
        exact i.climb y hy hu'
  · rw [oo y (by omega) (by omega)]
    exact h.zero y hy

end Go.Proofs.YtdmkbcbgjdmgdaaGreatDoor.Ct

namespace Go.Proofs.YtdmkbcbgjdmgdaaGreatDoor.Ct
open Go.RowKit
set_option linter.unusedVariables false

variable {T T' : Tb} {v : Nat → Int} {sub sub' seq seq' : Nat → List Nat} {N : Nat} {pp pp' par par' : Nat → Nat}

/-- The table of stretches: pp what a stretch hangs on, par what a node hangs on. -/
structure Lc (N : Nat) (T : Tb) (v : Nat → Int) (sub seq : Nat → List Nat) (pp par : Nat → Nat) : Prop where
  gd : Gd N T v sub seq
  p0 : pp 0 = 0
  plt : ∀ x, pp x < N
  pN : ∀ x, N ≤ x → pp x = 0
  pst : ∀ x y, x ≠ 0 → y ≠ 0 → seq x = seq y → pp x = pp y
  chn : ∀ x, x ≠ 0 → Chn par (pp x) (seq x)
  acy : Acy par

theorem Lc.of (h : Lc N T v sub seq pp par) {v' : Nat → Int} (g : Gd N T' v' sub' seq) : Lc N T' v' sub' seq pp par := ⟨g, h.p0, h.plt, h.pN, h.pst, h.chn, h.acy⟩

theorem Lc.up_lt (h : Lc N T v sub seq pp par) (x : Nat) : (real T pp x).up < N := by
  by_cases e : (T x).up = 0
  · rw [real_up0 e]; exact h.plt x
  · rw [real_up1 e]; exact h.gd.up_lt x

theorem Lc.zero (h : Lc N T v sub seq pp par) (x : Nat) (hx : N ≤ x) : real T pp x = nd0 := by
  unfold real rn
  rw [h.gd.zero x hx, h.pN x hx]
  rfl

theorem Lc.ne (h : Lc N T v sub seq pp par) {x : Nat} (hx : x ≠ 0) : ∀ y, y ∈ seq x → y ≠ 0 := fun y hy => (h.gd.mem_seq hx hy).2

theorem Lc.not (h : Lc N T v sub seq pp par) {x : Nat} (hx : x ≠ 0) : pp x ∉ seq x := h.acy.not_mem (h.ne hx) (h.chn x hx)

theorem Lc.one (h : Lc N T v sub seq pp par) {x y r : Nat} (hx : x ≠ 0) (hy : y ≠ 0) (e : seq x = seq y) (ht : Top par x r) : Top par y r :=
  h.acy.one (h.ne hx) (h.chn x hx) (h.gd.self hx) (by rw [e]; exact h.gd.self hy) ht

/-- What a stretch hangs on is of the same tree. -/
theorem Lc.hangs (h : Lc N T v sub seq pp par) {x r : Nat} (hx : x ≠ 0) (hp : pp x ≠ 0) (ht : Top par x r) : Top par (pp x) r := by
  obtain ⟨s, hs⟩ := h.acy.top hp
  have := hs.chn (h.ne hx) (h.chn x hx) x (h.gd.self hx)
  rw [ht.uniq h.acy this]
  exact hs

theorem mem_sub_lt (h : Gd N T v sub seq) {x y : Nat} (hx : x ≠ 0) (hy : y ∈ sub x) (hu : (T x).up ≠ 0) : y < N := by
  by_cases e : y = x
  · rw [e]; exact h.lt hu
  · exact h.lt (h.inv.sub_up hx hy e)

/-- What is behind a top is a stretch of its own. -/
theorem Lc.loose (h : Lc N T v sub seq pp par) {x : Nat} (hx : x ≠ 0) (hxN : x < N) (hu : (T x).up = 0) (ht : (T x).t = false) :
    ∃ T' sub' seq' pp', real T' pp' = hangT (real T pp) x true 0 ∧ Lc N T' v sub' seq' pp' par ∧ (T' x).up = 0 ∧ (T' x).t = false ∧ (T' x).r = 0 ∧ pp' x = pp x ∧ (∃ A, seq' x = A ++ [x]) ∧ (∀ y, y ∈ seq' x → y ∈ seq x) ∧ (∀ y, y ≠ 0 → seq y ≠ seq x → T' y = T y ∧ seq' y = seq y ∧ pp' y = pp y) := by
  have i := h.gd.inv
  obtain ⟨C, eC⟩ : ∃ C, (T x).k true = C := ⟨_, rfl⟩
  obtain ⟨L, eL⟩ : ∃ L, (T x).k (!true) = L := ⟨_, rfl⟩
  have hr := i.root x hx hu
  have eqx : sub x = sub L ++ x :: sub C := by have := i.eqn x hx false; rw [ht, show (T x).k false = L from eL, show (T x).k (!false) = C from eC] at this; exact this
  by_cases hC : C = 0
  · subst hC
    refine ⟨T, sub, seq, pp, ?_, h, hu, ht, eC, rfl, ⟨sub L, by rw [hr, eqx, i.sub0]⟩, fun y hy => hy, fun y _ _ => ⟨rfl, rfl, rfl⟩⟩
    rw [← real_hang true hx, h.gd.hang0 hx eC]
  · obtain ⟨⟨sub', g⟩, k1, k2, k3, k4, k5, k6, k7⟩ := h.gd.shedS true hx hu ht hxN eC eL hC
    have uC : (T C).up = x := by have := i.upk x hx true (by rw [eC]; exact hC); rw [eC] at this; exact this
    have eM : cat true [] x (sub L) = sub L ++ [x] := rfl
    rw [eM] at g
    obtain ⟨pp', hpp⟩ : ∃ p : Nat → Nat, (fun y => if y ∈ sub C then x else pp y) = p := ⟨_, rfl⟩
    have pin : ∀ y, y ∈ sub C → pp' y = x := fun y hy => by rw [← hpp]; exact if_pos hy
    have pout : ∀ y, y ∉ sub C → pp' y = pp y := fun y hy => by rw [← hpp]; exact if_neg hy
    obtain ⟨seq', hs⟩ : ∃ s, cutP seq (sub C) (sub L ++ [x]) = s := ⟨_, rfl⟩
    rw [hs] at g
    have sin : ∀ y, y ∈ sub C → seq' y = sub C := fun y hy => by rw [← hs]; exact if_pos hy
    have smid : ∀ y, y ∉ sub C → y ∈ sub L ++ [x] → seq' y = sub L ++ [x] := fun y h1 h2 => by rw [← hs]; unfold cutP; rw [if_neg h1, if_pos h2]
    have sout : ∀ y, y ∉ sub C → y ∉ sub L ++ [x] → seq' y = seq y := fun y h1 h2 => by rw [← hs]; unfold cutP; rw [if_neg h1, if_neg h2]
    have nd := i.nd x
    rw [eqx, show sub L ++ x :: sub C = (sub L ++ [x]) ++ sub C from by simp] at nd
    have dis : ∀ y, y ∈ sub L ++ [x] → y ∉ sub C := fun y h1 h2 => (List.nodup_append.1 nd).2.2 y h1 y h2 rfl
    have inx : ∀ y, y ∈ seq x ↔ y ∈ sub L ++ [x] ∨ y ∈ sub C := fun y => by rw [hr, eqx]; simp [or_assoc]
    have xM : x ∈ sub L ++ [x] := by simp
    have xC : x ∉ sub C := dis x xM
    have ch := h.chn x hx
    rw [hr, eqx, show sub L ++ x :: sub C = (sub L ++ [x]) ++ sub C from by simp, chn_append, lst_app] at ch
    have C0 : ∀ y, y ∈ sub C → y ≠ 0 := fun y hy => i.sub_ne hC hy
    have sx : seq' x = sub L ++ [x] := smid x xC xM
    have same : ∀ y, y ≠ 0 → y ∈ seq x → seq y = seq x := fun y hy hm => (h.gd.mem_iff hx hy).1 hm
    refine ⟨looseT T x true, sub', seq', pp', ?_, ⟨g, ?_, fun y => ?_, fun y hy => ?_, fun y z hy hz e => ?_, fun y hy => ?_, h.acy⟩, k3, k4, k1, pout x xC, ⟨sub L, sx⟩, fun y hy => (inx y).2 (Or.inl (by rw [← sx]; exact hy)), fun y hy hn => ?_⟩
    · rw [k7, real_hang true hx]
      congr 1
      funext y
      unfold real rn
      by_cases e : y = C
      · subst e
        rw [upd_same, pin y (i.self hC)]
        dsimp only
        rw [uC, if_neg hx, if_pos rfl]
      · rw [upd_ne e]
        by_cases e2 : (T y).up = 0
        · by_cases hy0 : y = 0
          · rw [pout y (fun hm => C0 y hm hy0)]
          · rw [pout y (i.root_not hC e e2)]
        · rw [if_neg e2, if_neg e2]
    · rw [pout 0 (fun hm => C0 0 hm rfl)]; exact h.p0
    · by_cases e : y ∈ sub C
      · rw [pin y e]; exact hxN
      · rw [pout y e]; exact h.plt y
    · rw [pout y (fun hm => by have := mem_sub_lt h.gd hC hm (by rw [uC]; exact hx); omega)]; exact h.pN y hy
    · have zy : z ∈ seq' y := by rw [e]; exact g.self hz
      by_cases h1 : y ∈ sub C
      · rw [sin y h1] at zy; rw [pin y h1, pin z zy]
      · by_cases h2 : y ∈ sub L ++ [x]
        · rw [smid y h1 h2] at zy
          rw [pout y h1, pout z (dis z zy)]
          exact h.pst y z hy hz ((same y hy ((inx y).2 (Or.inl h2))).trans (same z hz ((inx z).2 (Or.inl zy))).symm)
        · rw [sout y h1 h2] at zy
          have h3 : z ∉ sub C := fun hm => by
            have : seq y = seq x := ((h.gd.mem_seq hy zy).1.symm).trans (same z hz ((inx z).2 (Or.inr hm)))
            rcases (inx y).1 (by rw [← this]; exact h.gd.self hy) with e3 | e3
            · exact h2 e3
            · exact h1 e3
          rw [pout y h1, pout z h3]
          exact h.pst y z hy hz (h.gd.mem_seq hy zy).1.symm
    · by_cases h1 : y ∈ sub C
      · rw [pin y h1, sin y h1]; exact ch.2
      · by_cases h2 : y ∈ sub L ++ [x]
        · rw [pout y h1, smid y h1 h2, h.pst y x hy hx (same y hy ((inx y).2 (Or.inl h2)))]; exact ch.1
        · rw [pout y h1, sout y h1 h2]; exact h.chn y hy
    · have hnm : y ∉ seq x := fun hm => hn (same y hy hm)
      have h1 : y ∉ sub C := fun hm => hnm ((inx y).2 (Or.inr hm))
      have h2 : y ∉ sub L ++ [x] := fun hm => hnm ((inx y).2 (Or.inl hm))
      refine ⟨k5 y (fun e => h2 (by rw [e]; exact xM)) (fun e => h1 (by rw [e]; exact i.self hC)), sout y h1 h2, pout y h1⟩

/-- A stretch hung beneath a top that has nothing behind it. -/
theorem Lc.joined (h : Lc N T v sub seq pp par) {x k : Nat} (hx : x ≠ 0) (hxN : x < N) (hu : (T x).up = 0) (ht : (T x).t = false) (hr : (T x).r = 0) (hk : k ≠ 0) (hkN : k < N) (uk : (T k).up = 0) (pk : pp k = x) (hA : ∃ A, seq x = A ++ [x]) :
    ∃ T' sub' seq' pp', real T' pp' = hangT (real T pp) x true k ∧ Lc N T' v sub' seq' pp' par ∧ (T' x).up = 0 ∧ (T' x).t = false ∧ pp' x = pp x ∧ seq' x = seq x ++ seq k ∧ (∀ y, y ≠ 0 → seq y ≠ seq x → seq y ≠ seq k → T' y = T y ∧ seq' y = seq y ∧ pp' y = pp y) := by
  have i := h.gd.inv
  have xk : x ∉ seq k := by rw [← pk]; exact h.not hk
  have hne : seq x ≠ seq k := fun e => xk (by rw [← e]; exact h.gd.self hx)
  have nkx : k ≠ x := fun e => hne (by rw [e])
  obtain ⟨sub', g⟩ := h.gd.join hx hk hu uk ht hr hne hxN hkN
  obtain ⟨pp', hpp⟩ : ∃ p : Nat → Nat, (fun y => if y ∈ seq k then pp x else pp y) = p := ⟨_, rfl⟩
  have pin : ∀ y, y ∈ seq k → pp' y = pp x := fun y hy => by rw [← hpp]; exact if_pos hy
  have pout : ∀ y, y ∉ seq k → pp' y = pp y := fun y hy => by rw [← hpp]; exact if_neg hy
  have sin : ∀ y, y ∈ seq x ∨ y ∈ seq k → joinS seq x k y = seq x ++ seq k := fun y hy => if_pos hy
  have sout : ∀ y, ¬ (y ∈ seq x ∨ y ∈ seq k) → joinS seq x k y = seq y := fun y hy => if_neg hy
  have self := hangT_self (T := T) (x := x) (k := k) (s := true) nkx
  have inx : ∀ y, y ≠ 0 → (y ∈ seq x ↔ seq y = seq x) := fun y hy => h.gd.mem_iff hx hy
  have ink : ∀ y, y ≠ 0 → (y ∈ seq k ↔ seq y = seq k) := fun y hy => h.gd.mem_iff hk hy
  have px : ∀ y, y ≠ 0 → y ∈ seq x ∨ y ∈ seq k → pp' y = pp x := fun y hy hm => by
    by_cases hm2 : y ∈ seq k
    · exact pin y hm2
    · rw [pout y hm2]
      exact h.pst y x hy hx ((inx y hy).1 (hm.resolve_right hm2))
  refine ⟨hangT T x true k, sub', joinS seq x k, pp', ?_, ⟨g, ?_, fun y => ?_, fun y hy => ?_, fun y z hy hz e => ?_, fun y hy => ?_, h.acy⟩, self.2.2.1.trans hu, self.2.2.2.1.trans ht, pout x xk, sin x (Or.inl (h.gd.self hx)), fun y hy h1 h2 => ?_⟩
  · rw [← real_hang true hx]
    refine real_congr (fun y hy => ?_)
    by_cases hm : y ∈ seq k
    · exfalso
      by_cases e : y = k
      · rw [e, hangT_kid hk nkx] at hy; exact hx hy
      · have hyx : y ≠ x := fun e2 => xk (by rw [← e2]; exact hm)
        rw [hangT_other hyx (fun _ => e)] at hy
        rw [i.root k hk uk] at hm
        exact i.root_not hk e hy hm
    · exact pout y hm
  · rw [pout 0 (fun hm => h.ne hk 0 hm rfl)]; exact h.p0
  · by_cases e : y ∈ seq k
    · rw [pin y e]; exact h.plt x
    · rw [pout y e]; exact h.plt y
  · rw [pout y (fun hm => ?_)]
    · exact h.pN y hy
    · by_cases e : y = k
      · omega
      · rw [i.root k hk uk] at hm
        have := h.gd.lt (i.sub_up hk hm e)
        omega
  · have zy : z ∈ joinS seq x k y := by rw [e]; exact g.self hz
    by_cases h1 : y ∈ seq x ∨ y ∈ seq k
    · rw [sin y h1] at zy
      rw [px y hy h1, px z hz (List.mem_append.1 zy)]
    · rw [sout y h1] at zy
      have hzy := (h.gd.mem_seq hy zy).1
      have h3 : ¬ (z ∈ seq x ∨ z ∈ seq k) := fun hm => h1 (by
        rcases hm with hm | hm
        · exact Or.inl ((inx y hy).2 (hzy.symm.trans ((inx z hz).1 hm)))
        · exact Or.inr ((ink y hy).2 (hzy.symm.trans ((ink z hz).1 hm))))
      rw [pout y (fun e => h1 (Or.inr e)), pout z (fun e => h3 (Or.inr e))]
      exact h.pst y z hy hz hzy.symm
  · by_cases h1 : y ∈ seq x ∨ y ∈ seq k
    · rw [px y hy h1, sin y h1, chn_append]
      obtain ⟨A, hA⟩ := hA
      refine ⟨h.chn x hx, ?_⟩
      rw [hA, lst_app]
      have := h.chn k hk
      rw [pk] at this
      exact this
    · rw [pout y (fun e => h1 (Or.inr e)), sout y h1]; exact h.chn y hy
  · have n1 : y ∉ seq x := fun e => h1 ((inx y hy).1 e)
    have n2 : y ∉ seq k := fun e => h2 ((ink y hy).1 e)
    refine ⟨hangT_other (fun e => n1 (by rw [e]; exact h.gd.self hx)) (fun _ e => n2 (by rw [e]; exact h.gd.self hk)), sout y (fun e => by rcases e with e | e; exact n1 e; exact n2 e), pout y n2⟩

/-- One step of laying a road out as one stretch. -/
theorem Lc.hang (h : Lc N T v sub seq pp par) {x k : Nat} (hx : x ≠ 0) (hxN : x < N) (hu : (T x).up = 0) (ht : (T x).t = false) (hk : k = 0 ∨ (k ≠ 0 ∧ k < N ∧ (T k).up = 0 ∧ pp k = x)) :
    ∃ T' sub' seq' pp', real T' pp' = hangT (real T pp) x true k ∧ Lc N T' v sub' seq' pp' par ∧ (T' x).up = 0 ∧ (T' x).t = false ∧ pp' x = pp x ∧ (∃ A, seq' x = A ++ x :: (if k = 0 then [] else seq k)) ∧ (∀ y, y ≠ 0 → seq y ≠ seq x → (k ≠ 0 → seq y ≠ seq k) → T' y = T y ∧ seq' y = seq y ∧ pp' y = pp y) := by
  obtain ⟨T1, sub1, seq1, pp1, a1, a2, a3, a4, a5, a6, ⟨A, a7⟩, a8, a9⟩ := h.loose hx hxN hu ht
  rcases hk with rfl | ⟨hk, hkN, uk, pk⟩
  · exact ⟨T1, sub1, seq1, pp1, a1, a2, a3, a4, a6, ⟨A, by rw [a7, if_pos rfl]⟩, fun y hy h1 _ => a9 y hy h1⟩
  · have hne : seq k ≠ seq x := fun e => h.not hk (by rw [pk, e]; exact h.gd.self hx)
    obtain ⟨b1, b2, b3⟩ := a9 k hk hne
    have nkx : k ≠ x := fun e => hne (by rw [e])
    obtain ⟨T2, sub2, seq2, pp2, c1, c2, c3, c4, c5, c6, c7⟩ := a2.joined hx hxN a3 a4 a5 hk hkN (by rw [b1]; exact uk) (by rw [b3]; exact pk) ⟨A, a7⟩
    refine ⟨T2, sub2, seq2, pp2, ?_, c2, c3, c4, c5.trans a6, ⟨A, by rw [c6, a7, b2, if_neg hk]; simp⟩, fun y hy h1 h2 => ?_⟩
    · rw [c1, a1, hang_hang hx nkx (by have := h.gd.inv.kid_ne hx false; exact this)]
    · obtain ⟨d1, d2, d3⟩ := a9 y hy h1
      have e1 : seq1 y ≠ seq1 x := fun e => h1 ((h.gd.mem_iff hx hy).1 (a8 y (by rw [← e]; exact a2.gd.self hy)))
      have e2 : seq1 y ≠ seq1 k := by rw [d2, b2]; exact h2 hk
      obtain ⟨f1, f2, f3⟩ := c7 y hy e1 e2
      exact ⟨f1.trans d1, f2.trans d2, f3.trans d3⟩

/-- A road turned round. -/
theorem Lc.turn (h : Lc N T v sub seq pp par) {x : Nat} (hx : x ≠ 0) (hxN : x < N) (hu : (T x).up = 0) (hp : pp x = 0) :
    ∃ sub' par', Lc N (turnT T x) v sub' (revS seq x) pp par' ∧ (∀ a b, Adj par' a b ↔ Adj par a b) := by
  obtain ⟨sub', g⟩ := h.gd.turn hx hu hxN
  have hc := h.chn x hx
  rw [hp] at hc
  obtain ⟨par', p1, p2, p3, p4⟩ := reroot h.acy (h.ne hx) hc
  refine ⟨sub', par', ⟨g, h.p0, h.plt, h.pN, fun y z hy hz e => ?_, fun y hy => ?_, p4⟩, p3⟩
  · have zy : z ∈ revS seq x y := by rw [e]; exact g.self hz
    refine h.pst y z hy hz ?_
    unfold revS at zy
    by_cases h1 : y ∈ seq x
    · rw [if_pos h1] at zy
      exact ((h.gd.mem_iff hx hy).1 h1).trans ((h.gd.mem_iff hx hz).1 (List.mem_reverse.1 zy)).symm
    · rw [if_neg h1] at zy
      exact (h.gd.mem_seq hy zy).1.symm
  · unfold revS
    by_cases h1 : y ∈ seq x
    · rw [if_pos h1, h.pst y x hy hx ((h.gd.mem_iff hx hy).1 h1), hp]; exact p1
    · rw [if_neg h1]
      refine chn_congr (fun z hz => p2 z (fun e => h1 ?_)) (h.chn y hy)
      have hz0 := h.ne hy z hz
      exact (h.gd.mem_iff hx hy).2 ((h.gd.mem_seq hy hz).1.symm.trans ((h.gd.mem_iff hx hz0).1 e))

/-- A tree's root hung on a node of another tree. -/
theorem Lc.link (h : Lc N T v sub seq pp par) {a b : Nat} (ha : a ≠ 0) (haN : a < N) (hb : b ≠ 0) (hbN : b < N) (hu : (T a).up = 0) (hp : pp a = 0) (hs : ∃ A, seq a = a :: A) (hn : ¬ Top par b a) :
    ∃ pp' par', real T pp' = upd (real T pp) a { real T pp a with up := b } ∧ Lc N T v sub seq pp' par' ∧ (∀ x y, Adj par' x y ↔ addE (Adj par) a b x y) := by
  obtain ⟨A, hs⟩ := hs
  have hc := h.chn a ha
  rw [hs] at hc
  have pa : par a = 0 := hc.1.trans hp
  have i := h.gd.inv
  obtain ⟨pp', hpp⟩ : ∃ p : Nat → Nat, (fun y => if y ∈ seq a then b else pp y) = p := ⟨_, rfl⟩
  have pin : ∀ y, y ∈ seq a → pp' y = b := fun y hy => by rw [← hpp]; exact if_pos hy
  have pout : ∀ y, y ∉ seq a → pp' y = pp y := fun y hy => by rw [← hpp]; exact if_neg hy
  refine ⟨pp', fun y => if y = a then b else par y, ?_, ⟨h.gd, ?_, fun y => ?_, fun y hy => ?_, fun y z hy hz e => ?_, fun y hy => ?_, acy_link h.acy ha hb pa hn⟩, adj_link ha hb pa⟩
  · funext y
    by_cases e : y = a
    · subst e
      rw [upd_same]
      unfold real rn
      rw [if_pos hu, pin y (h.gd.self ha)]
    · rw [upd_ne e]
      unfold real rn
      by_cases e2 : (T y).up = 0
      · rw [pout y (fun hm => i.root_not ha e e2 (by rw [← i.root a ha hu]; exact hm))]
      · rw [if_neg e2, if_neg e2]
  · rw [pout 0 (fun hm => h.ne ha 0 hm rfl)]; exact h.p0
  · by_cases e : y ∈ seq a
    · rw [pin y e]; exact hbN
    · rw [pout y e]; exact h.plt y
  · rw [pout y (fun hm => ?_)]
    · exact h.pN y hy
    · by_cases e : y = a
      · omega
      · rw [i.root a ha hu] at hm
        have := h.gd.lt (i.sub_up ha hm e)
        omega
  · have zy : z ∈ seq y := by rw [e]; exact h.gd.self hz
    have h1 : y ∈ seq a ↔ z ∈ seq a := by rw [h.gd.mem_iff ha hy, h.gd.mem_iff ha hz, e]
    by_cases h2 : y ∈ seq a
    · rw [pin y h2, pin z (h1.1 h2)]
    · rw [pout y h2, pout z (fun e => h2 (h1.2 e))]; exact h.pst y z hy hz e
  · by_cases h1 : y ∈ seq a
    · have e := (h.gd.mem_iff ha hy).1 h1
      rw [pin y h1, e, hs]
      have nd := h.gd.seq_nd ha
      rw [hs] at nd
      exact ⟨if_pos rfl, chn_congr (fun z hz => if_neg (fun e : z = a => (List.nodup_cons.1 nd).1 (e ▸ hz))) hc.2⟩
    · rw [pout y h1]
      refine chn_congr (fun z hz => if_neg (fun e : z = a => h1 ?_)) (h.chn y hy)
      rw [e] at hz
      exact (h.gd.mem_iff ha hy).2 (h.gd.mem_seq hy hz).1.symm

/-- Two linked nodes parted. -/
theorem Lc.cut (h : Lc N T v sub seq pp par) {a b : Nat} (ha : a ≠ 0) (hb : b ≠ 0) (hbN : b < N) (hu : (T b).up = 0) (ht : (T b).t = false) (hp : pp b = 0) (hs : seq b = [a, b]) :
    (T b).l = a ∧ (T b).r = 0 ∧ ∃ T' sub' seq' pp' par', real T' pp' = hangT (upd (real T pp) a { real T pp a with up := 0 }) b false 0 ∧ Lc N T' v sub' seq' pp' par' ∧ (∀ x y, Adj par' x y ↔ delE (Adj par) a b x y) := by
  have i := h.gd.inv
  have hr := i.root b hb hu
  have nd := h.gd.seq_nd hb
  rw [hs] at nd
  have nab : a ≠ b := by simp at nd; exact nd
  obtain ⟨L, eL⟩ : ∃ L, (T b).k false = L := ⟨_, rfl⟩
  obtain ⟨R, eR⟩ : ∃ R, (T b).k (!false) = R := ⟨_, rfl⟩
  have eqb : sub b = sub L ++ b :: sub R := by have := i.eqn b hb false; rw [ht, eL, eR] at this; exact this
  rw [hs, eqb] at hr
  have hL : sub L = [a] ∧ sub R = [] := by
    cases hsl : sub L with
    | nil => rw [hsl] at hr; simp at hr; exact absurd hr.1 nab
    | cons c m =>
      rw [hsl] at hr
      cases m with
      | nil => simp at hr; exact ⟨by rw [hr.1], hr.2⟩
      | cons d m => simp at hr
  have L0 : L ≠ 0 := fun e => by rw [e, i.sub0] at hL; simp at hL
  have La : L = a := by have := i.self L0; rw [hL.1] at this; simpa using this
  have R0 : R = 0 := by
    by_cases e : R = 0
    · exact e
    · have := i.self e; rw [hL.2] at this; cases this
  subst La
  subst R0
  obtain ⟨⟨sub', g⟩, k1, k2, k3, k4, k5, k6, k7⟩ := h.gd.shedS false hb hu ht hbN eL eR L0
  have eM : cat false [] b (sub 0) = [b] := by rw [i.sub0]; rfl
  rw [eM, hL.1] at g
  have hc := h.chn b hb
  rw [hs, hp] at hc
  have pa : par L = 0 := hc.1
  have pb : par b = L := hc.2.1
  have uL : (T L).up = b := by have := i.upk b hb false (by rw [eL]; exact ha); rw [eL] at this; exact this
  obtain ⟨pp', hpp⟩ : ∃ p : Nat → Nat, (fun y => if y = L ∨ y = b then 0 else pp y) = p := ⟨_, rfl⟩
  have pin : ∀ y, y = L ∨ y = b → pp' y = 0 := fun y hy => by rw [← hpp]; exact if_pos hy
  have pout : ∀ y, ¬ (y = L ∨ y = b) → pp' y = pp y := fun y hy => by rw [← hpp]; exact if_neg hy
  obtain ⟨seq', hsq⟩ : ∃ s, cutP seq [L] [b] = s := ⟨_, rfl⟩
  rw [hsq] at g
  have sL : seq' L = [L] := by rw [← hsq]; simp [cutP]
  have sb : seq' b = [b] := by rw [← hsq]; simp [cutP, nab.symm]
  have so : ∀ y, ¬ (y = L ∨ y = b) → seq' y = seq y := fun y hy => by rw [← hsq]; simp only [cutP, List.mem_singleton]; rw [if_neg (fun e => hy (Or.inl e)), if_neg (fun e => hy (Or.inr e))]
  refine ⟨eL, eR, looseT T b false, sub', seq', pp', fun y => if y = b then 0 else par y, ?_, ⟨g, ?_, fun y => ?_, fun y hy => ?_, fun y z hy hz e => ?_, fun y hy => ?_, acy_cut h.acy b⟩, adj_cut pa pb⟩
  · rw [k7, real_hang false hb]
    congr 1
    funext y
    by_cases e : y = L
    · subst e
      rw [upd_same]
      unfold real rn
      rw [upd_same, pin y (Or.inl rfl)]
      rfl
    · rw [upd_ne e]
      unfold real rn
      rw [upd_ne e]
      by_cases e2 : y = b
      · rw [pin y (Or.inr e2), e2, hp]
      · rw [pout y (fun e3 => by rcases e3 with e3 | e3; exact e e3; exact e2 e3)]
  · rw [pout 0 (fun e => by rcases e with e | e; exact ha e.symm; exact hb e.symm)]; exact h.p0
  · by_cases e : y = L ∨ y = b
    · rw [pin y e]; omega
    · rw [pout y e]; exact h.plt y
  · by_cases e : y = L ∨ y = b
    · exact pin y e
    · rw [pout y e]; exact h.pN y hy
  · have zy : z ∈ seq' y := by rw [e]; exact g.self hz
    by_cases e1 : y = L ∨ y = b
    · have : z = L ∨ z = b := by
        rcases e1 with e1 | e1
        · rw [e1, sL] at zy; exact Or.inl (by simpa using zy)
        · rw [e1, sb] at zy; exact Or.inr (by simpa using zy)
      rw [pin y e1, pin z this]
    · rw [so y e1] at zy
      have hzy := (h.gd.mem_seq hy zy).1
      have e2 : ¬ (z = L ∨ z = b) := fun e2 => e1 (by
        have : seq z = seq b := by
          rcases e2 with e2 | e2
          · rw [e2]; exact (h.gd.mem_seq hb (by rw [hs]; simp)).1
          · rw [e2]
        have hy2 := h.gd.self hy
        rw [← hzy, this, hs] at hy2
        simpa using hy2)
      rw [pout y e1, pout z e2]; exact h.pst y z hy hz hzy.symm
  · by_cases e1 : y = L ∨ y = b
    · rw [pin y e1]
      rcases e1 with e1 | e1
      · rw [e1, sL]; exact ⟨by show (if L = b then 0 else par L) = 0; rw [if_neg nab]; exact pa, trivial⟩
      · rw [e1, sb]; exact ⟨if_pos rfl, trivial⟩
    · rw [pout y e1, so y e1]
      refine chn_congr (fun z hz => if_neg (fun e : z = b => e1 ?_)) (h.chn y hy)
      rw [e] at hz
      have hyb := (h.gd.mem_seq hy hz).1
      have hy2 := h.gd.self hy
      rw [← hyb, hs] at hy2
      simpa using hy2

end Go.Proofs.YtdmkbcbgjdmgdaaGreatDoor.Ct

namespace Go.Proofs.YtdmkbcbgjdmgdaaGreatDoor.Ct
open Go.RowKit
set_option linter.unusedVariables false

/-- On which side of the one above a spot is, as a number. -/
def wI (T : Tb) (x : Nat) : Int := if (T (T x).up).l = x then 0 else if (T (T x).up).r = x then 1 else 2

set_option maxRecDepth 100000 in
set_option maxHeartbeats 4000000 in
theorem where_ok (fb nb n N x : Nat) (T : Tb) (w : World) (h : Fo w fb nb n N T) (hx : x < N) (hu : (T x).up < N) :
    Calls Tryz.prog 119 #[.pointer (some ⟨fb, 0, none⟩), .int .i32 (x : Int)] w fun e w' => e = .returned (.int .i64 (wI T x)) ∧ w' = w.drew := by
  have hbig := h.big
  have c1 := h.c1
  have cu := h.up hx
  have cl := h.l hu
  have cr : w.cell? ⟨nb, (T x).up * 9 + 6 + 1, none⟩ = some (.int .i32 ((T (T x).up).r : Int)) := h.r hu
  obtain ⟨U, hU⟩ : ∃ U, (T x).up = U := ⟨_, rfl⟩
  have hw : Hid (wI T x = if (T U).l = x then 0 else if (T U).r = x then 1 else 2) := hid (by unfold wI; rw [hU])
  rw [hU] at cu cr cl hu
  obtain ⟨R, hR⟩ : ∃ R, (T U).r = R := ⟨_, rfl⟩
  obtain ⟨L, hL⟩ : ∃ L, (T U).l = L := ⟨_, rfl⟩
  rw [hR] at cr
  rw [hL] at cl
  rw [hR, hL] at hw
  have q1 : (0 : Int) ≤ (x : Int) := by omega
  have q2 : (x : Int) < (N : Int) := by omega
  have q3 : (0 : Int) ≤ (U : Int) := by omega
  have q4 : (U : Int) < (N : Int) := by omega
  have k1 : w.drew.cell? ⟨nb, U * 9 + 6, none⟩ = some (.int .i32 (L : Int)) := cl
  have k2 : w.drew.cell? ⟨nb, U * 9 + 6 + 1, none⟩ = some (.int .i32 (R : Int)) := cr
  clear hU hR hL h
  by_cases e : x = L
  · subst e
    go_enter Tryz.func119, Tryz.ntmps119
    go_wp2_with fail
    go_region
    all_goals
      go_wp2_with fail
      go_ret
      exact ⟨by rw [hw.out]; simp, rfl⟩
  · have t1 : ((x : Int) == (L : Int)) = false := by simp; omega
    have eh := hid (Ne.symm e)
    clear e
    by_cases e : x = R
    · subst e
      go_enter Tryz.func119, Tryz.ntmps119
      go_wp2_with fail
      go_region
      all_goals
        go_wp2_with fail
        go_ret
        exact ⟨by rw [hw.out, if_neg eh.out]; simp, rfl⟩
    · have t2 : ((x : Int) == (R : Int)) = false := by simp; omega
      have eh2 := hid (Ne.symm e)
      clear e
      go_enter Tryz.func119, Tryz.ntmps119
      go_wp2_with fail
      go_region
      all_goals
        go_wp2_with fail
        go_ret
        exact ⟨by rw [hw.out, if_neg eh.out, if_neg eh2.out]; rfl, rfl⟩

section
variable {T : Tb} {v : Nat → Int} {sub seq : Nat → List Nat} {N : Nat} {pp par : Nat → Nat}

theorem Lc.where_top (h : Lc N T v sub seq pp par) {x : Nat} (hx : x ≠ 0) (hu : (T x).up = 0) : wI (real T pp) x = 2 := by
  unfold wI
  rw [real_up0 hu]
  have hk : ∀ s, (T (pp x)).k s ≠ x := fun s e => by
    by_cases h0 : pp x = 0
    · rw [h0, h.gd.inv.none] at e
      cases s <;> exact hx e.symm
    · have := h.gd.inv.upk (pp x) h0 s (by rw [e]; exact hx)
      rw [e, hu] at this
      exact h0 this.symm
  rw [if_neg (show ¬ (real T pp (pp x)).l = x from hk false), if_neg (show ¬ (real T pp (pp x)).r = x from hk true)]

theorem Lc.where_in (h : Lc N T v sub seq pp par) {x : Nat} (hx : x ≠ 0) (hu : (T x).up ≠ 0) : wI (real T pp) x = sI (whr T x) := by
  unfold wI
  rw [real_up1 hu]
  have ho := h.gd.inv.onSide hx hu
  have hkd := h.gd.inv.kids hu (whr T x) (by rw [ho]; exact hx)
  rw [ho] at hkd
  cases hw : whr T x with
  | false =>
    rw [hw] at ho
    rw [if_pos (show (real T pp (T x).up).l = x from ho)]; rfl
  | true =>
    rw [hw] at ho hkd
    rw [if_neg (show ¬ (real T pp (T x).up).l = x from hkd), if_pos (show (real T pp (T x).up).r = x from ho)]; rfl
end

end Go.Proofs.YtdmkbcbgjdmgdaaGreatDoor.Ct

namespace Go.Proofs.YtdmkbcbgjdmgdaaGreatDoor.Ct
open Go.RowKit
set_option linter.unusedVariables false

set_option maxRecDepth 100000 in
set_option maxHeartbeats 2000000 in
theorem lift_l (fb nb n N x p b g : Nat) (tI : Int) (t : Bool) (T T1 T2 TR : Tb) (w : World) (h : Fo w fb nb n N T) (hx : x < N) (hp : p < N) (hb : b < N) (hg : g < N) (ep : (T x).up = p) (eb : (T x).k true = b) (eg : (T p).up = g) (hTR : Hid ((tI = 2 ∧ TR = upd T2 x { T2 x with up := g }) ∨ (sI t = tI ∧ TR = upd (upd T2 x { T2 x with up := g }) g ((upd T2 x { T2 x with up := g } g).setK t x))))
    (hw1 : Hid (∀ y, Fo y fb nb n N T → Calls Tryz.prog 119 #[.pointer (some ⟨fb, 0, none⟩), .int .i32 (x : Int)] y fun e w' => e = .returned (.int .i64 0) ∧ w' = y.drew))
    (hw2 : Hid (∀ y, Fo y fb nb n N T → Calls Tryz.prog 119 #[.pointer (some ⟨fb, 0, none⟩), .int .i32 (p : Int)] y fun e w' => e = .returned (.int .i64 tI) ∧ w' = y.drew))
    (hh1 : Hid (∀ y, Fo y fb nb n N T → Calls Tryz.prog 115 #[.pointer (some ⟨fb, 0, none⟩), .int .i32 (p : Int), .int .i64 0, .int .i32 (b : Int)] y fun e w' => e = .returned (.tuple #[]) ∧ Fo w' fb nb n N T1 ∧ Turned (fun k => k = nb) y w'))
    (hh2 : Hid (∀ y, Fo y fb nb n N T1 → Calls Tryz.prog 115 #[.pointer (some ⟨fb, 0, none⟩), .int .i32 (x : Int), .int .i64 1, .int .i32 (p : Int)] y fun e w' => e = .returned (.tuple #[]) ∧ Fo w' fb nb n N T2 ∧ Turned (fun k => k = nb) y w')) :
    Calls Tryz.prog 121 #[.pointer (some ⟨fb, 0, none⟩), .int .i32 (x : Int)] w fun e w' => e = .returned (.tuple #[]) ∧ Fo w' fb nb n N TR ∧ Turned (fun k => k = nb) w w' := by
  have hbig := h.big
  have hh := hid h
  have c1 := h.c1
  have cu : w.cell? ⟨nb, x * 9 + 5, none⟩ = some (.int .i32 (p : Int)) := by rw [← ep]; exact h.up hx
  have cp : w.cell? ⟨nb, p * 9 + 5, none⟩ = some (.int .i32 (g : Int)) := by rw [← eg]; exact h.up hp
  have q1 : (0 : Int) ≤ (x : Int) := by omega
  have q2 : (x : Int) < (N : Int) := by omega
  have q3 : (0 : Int) ≤ (p : Int) := by omega
  have q4 : (p : Int) < (N : Int) := by omega
  have q5 : (0 : Int) ≤ (g : Int) := by omega
  have q6 : (g : Int) < (N : Int) := by omega
  have ebh := hid eb
  clear h ep eg eb
  go_enter Tryz.func121, Tryz.ntmps121
  go_wp2_with fail
  go_region_held3 (fun w' => w'.cell? ⟨fb, 1, none⟩ = some (.slice (some ⟨nb, 0, none⟩) N N) ∧ w'.cell? ⟨nb, x * 9 + 5, none⟩ = some (.int .i32 (p : Int))) (go_keep) ((go_at_call 119; refine (hw1.out _ (by first | exact hh.out.drew | exact hh.out.drew.drew)).mono ?_; rintro e w' ⟨rfl, rfl⟩))
  go_wp2_with fail
  go_region_held3 (fun w' => w'.cell? ⟨fb, 1, none⟩ = some (.slice (some ⟨nb, 0, none⟩) N N) ∧ w'.cell? ⟨nb, p * 9 + 5, none⟩ = some (.int .i32 (g : Int))) (go_keep) ((go_at_call 119; refine (hw2.out _ (by first | exact hh.out.drew.drew.drew | exact hh.out.drew.drew)).mono ?_; rintro e w' ⟨rfl, rfl⟩))
  have h1 := hid hh.out.drew.drew.drew.drew
  have t1 := hid ((Turned.refl (fun k => k = nb) w).drew.drew.drew.drew)
  generalize w.drew.drew.drew.drew = w1 at h1 t1 ⊢
  clear c1 cu cp hh
  have c1 := h1.out.c1
  have cb : w1.cell? ⟨nb, x * 9 + 6 + 1, none⟩ = some (.int .i32 (b : Int)) := by rw [← ebh.out]; exact h1.out.at hx (k := 7) (by decide)
  go_wp2_with fail
  refine (hh1.out _ h1.out).mono ?_
  rintro e w2 ⟨rfl, h2, t2⟩
  have h2 := hid h2
  have t2 := hid (t1.out.trans t2)
  clear h1 t1 c1 cb
  go_wp2_with fail
  refine (hh2.out _ h2.out).mono ?_
  rintro e w3 ⟨rfl, h3, t3⟩
  have h3 := hid h3
  have t3 := hid (t2.out.trans t3)
  have c1 := h3.out.c1
  have cx := h3.out.up hx
  have fx := h3.out.fro (x * 9 + 5)
  have h4 := hid (h3.out.set 5 { T2 x with up := g } (u := .int .i32 (g : Int)) hx (by decide) rfl)
  have t4 := hid (t3.out.setCell (p := ⟨nb, x * 9 + 5, none⟩) rfl (.int .i32 (g : Int)))
  clear h2 t2
  go_upto_region 5 with fail
  generalize w3.setCell ⟨nb, x * 9 + 5, none⟩ (.int .i32 (g : Int)) = w4 at h4 t4 ⊢
  clear h3 t3 c1 cx fx
  rcases hTR.out with ⟨rfl, hR⟩ | ⟨hth, hR⟩
  · have hR := hid hR
    clear hTR
    go_wp2_with fail
    go_end0
    exact ⟨rfl, by rw [hR.out]; exact h4.out, t4.out⟩
  · have hth := hid hth
    replace hTR := hid hR
    clear hR
    generalize upd T2 x { T2 x with up := g } = T3 at h4 hTR
    have c1 := h4.out.c1
    have f6 := h4.out.fro (g * 9 + 6)
    have f7 := h4.out.fro (g * 9 + 6 + 1)
    have g6 := h4.out.l hg
    have g7 : w4.cell? ⟨nb, g * 9 + 6 + 1, none⟩ = some (.int .i32 ((T3 g).r : Int)) := h4.out.r hg
    cases t
    · obtain rfl : tI = 0 := hth.out.symm
      go_wp2_with fail
      go_end0
      exact ⟨rfl, by rw [hTR.out]; exact h4.out.set 6 ((T3 g).setK false x) hg (by decide) rfl, t4.out.setCell (p := ⟨nb, g * 9 + 6, none⟩) rfl _⟩
    · obtain rfl : tI = 1 := hth.out.symm
      go_wp2_with fail
      go_end0
      exact ⟨rfl, by rw [hTR.out]; exact h4.out.set 7 ((T3 g).setK true x) hg (by decide) rfl, t4.out.setCell (p := ⟨nb, g * 9 + 6 + 1, none⟩) rfl _⟩

set_option maxRecDepth 100000 in
set_option maxHeartbeats 2000000 in
theorem lift_r (fb nb n N x p b g : Nat) (tI : Int) (t : Bool) (T T1 T2 TR : Tb) (w : World) (h : Fo w fb nb n N T) (hx : x < N) (hp : p < N) (hb : b < N) (hg : g < N) (ep : (T x).up = p) (eb : (T x).k false = b) (eg : (T p).up = g) (hTR : Hid ((tI = 2 ∧ TR = upd T2 x { T2 x with up := g }) ∨ (sI t = tI ∧ TR = upd (upd T2 x { T2 x with up := g }) g ((upd T2 x { T2 x with up := g } g).setK t x))))
    (hw1 : Hid (∀ y, Fo y fb nb n N T → Calls Tryz.prog 119 #[.pointer (some ⟨fb, 0, none⟩), .int .i32 (x : Int)] y fun e w' => e = .returned (.int .i64 1) ∧ w' = y.drew))
    (hw2 : Hid (∀ y, Fo y fb nb n N T → Calls Tryz.prog 119 #[.pointer (some ⟨fb, 0, none⟩), .int .i32 (p : Int)] y fun e w' => e = .returned (.int .i64 tI) ∧ w' = y.drew))
    (hh1 : Hid (∀ y, Fo y fb nb n N T → Calls Tryz.prog 115 #[.pointer (some ⟨fb, 0, none⟩), .int .i32 (p : Int), .int .i64 1, .int .i32 (b : Int)] y fun e w' => e = .returned (.tuple #[]) ∧ Fo w' fb nb n N T1 ∧ Turned (fun k => k = nb) y w'))
    (hh2 : Hid (∀ y, Fo y fb nb n N T1 → Calls Tryz.prog 115 #[.pointer (some ⟨fb, 0, none⟩), .int .i32 (x : Int), .int .i64 0, .int .i32 (p : Int)] y fun e w' => e = .returned (.tuple #[]) ∧ Fo w' fb nb n N T2 ∧ Turned (fun k => k = nb) y w')) :
    Calls Tryz.prog 121 #[.pointer (some ⟨fb, 0, none⟩), .int .i32 (x : Int)] w fun e w' => e = .returned (.tuple #[]) ∧ Fo w' fb nb n N TR ∧ Turned (fun k => k = nb) w w' := by
  have hbig := h.big
  have hh := hid h
  have c1 := h.c1
  have cu : w.cell? ⟨nb, x * 9 + 5, none⟩ = some (.int .i32 (p : Int)) := by rw [← ep]; exact h.up hx
  have cp : w.cell? ⟨nb, p * 9 + 5, none⟩ = some (.int .i32 (g : Int)) := by rw [← eg]; exact h.up hp
  have q1 : (0 : Int) ≤ (x : Int) := by omega
  have q2 : (x : Int) < (N : Int) := by omega
  have q3 : (0 : Int) ≤ (p : Int) := by omega
  have q4 : (p : Int) < (N : Int) := by omega
  have q5 : (0 : Int) ≤ (g : Int) := by omega
  have q6 : (g : Int) < (N : Int) := by omega
  have ebh := hid eb
  clear h ep eg eb
  go_enter Tryz.func121, Tryz.ntmps121
  go_wp2_with fail
  go_region_held3 (fun w' => w'.cell? ⟨fb, 1, none⟩ = some (.slice (some ⟨nb, 0, none⟩) N N) ∧ w'.cell? ⟨nb, x * 9 + 5, none⟩ = some (.int .i32 (p : Int))) (go_keep) ((go_at_call 119; refine (hw1.out _ (by first | exact hh.out.drew | exact hh.out.drew.drew)).mono ?_; rintro e w' ⟨rfl, rfl⟩))
  go_wp2_with fail
  go_region_held3 (fun w' => w'.cell? ⟨fb, 1, none⟩ = some (.slice (some ⟨nb, 0, none⟩) N N) ∧ w'.cell? ⟨nb, p * 9 + 5, none⟩ = some (.int .i32 (g : Int))) (go_keep) ((go_at_call 119; refine (hw2.out _ (by first | exact hh.out.drew.drew.drew | exact hh.out.drew.drew)).mono ?_; rintro e w' ⟨rfl, rfl⟩))
  have h1 := hid hh.out.drew.drew.drew.drew
  have t1 := hid ((Turned.refl (fun k => k = nb) w).drew.drew.drew.drew)
  generalize w.drew.drew.drew.drew = w1 at h1 t1 ⊢
  clear c1 cu cp hh
  have c1 := h1.out.c1
  have cb : w1.cell? ⟨nb, x * 9 + 6, none⟩ = some (.int .i32 (b : Int)) := by rw [← ebh.out]; exact h1.out.at hx (k := 6) (by decide)
  go_wp2_with fail
  refine (hh1.out _ h1.out).mono ?_
  rintro e w2 ⟨rfl, h2, t2⟩
  have h2 := hid h2
  have t2 := hid (t1.out.trans t2)
  clear h1 t1 c1 cb
  go_wp2_with fail
  refine (hh2.out _ h2.out).mono ?_
  rintro e w3 ⟨rfl, h3, t3⟩
  have h3 := hid h3
  have t3 := hid (t2.out.trans t3)
  have c1 := h3.out.c1
  have cx := h3.out.up hx
  have fx := h3.out.fro (x * 9 + 5)
  have h4 := hid (h3.out.set 5 { T2 x with up := g } (u := .int .i32 (g : Int)) hx (by decide) rfl)
  have t4 := hid (t3.out.setCell (p := ⟨nb, x * 9 + 5, none⟩) rfl (.int .i32 (g : Int)))
  clear h2 t2
  go_upto_region 5 with fail
  generalize w3.setCell ⟨nb, x * 9 + 5, none⟩ (.int .i32 (g : Int)) = w4 at h4 t4 ⊢
  clear h3 t3 c1 cx fx
  rcases hTR.out with ⟨rfl, hR⟩ | ⟨hth, hR⟩
  · have hR := hid hR
    clear hTR
    go_wp2_with fail
    go_end0
    exact ⟨rfl, by rw [hR.out]; exact h4.out, t4.out⟩
  · have hth := hid hth
    replace hTR := hid hR
    clear hR
    generalize upd T2 x { T2 x with up := g } = T3 at h4 hTR
    have c1 := h4.out.c1
    have f6 := h4.out.fro (g * 9 + 6)
    have f7 := h4.out.fro (g * 9 + 6 + 1)
    have g6 := h4.out.l hg
    have g7 : w4.cell? ⟨nb, g * 9 + 6 + 1, none⟩ = some (.int .i32 ((T3 g).r : Int)) := h4.out.r hg
    cases t
    · obtain rfl : tI = 0 := hth.out.symm
      go_wp2_with fail
      go_end0
      exact ⟨rfl, by rw [hTR.out]; exact h4.out.set 6 ((T3 g).setK false x) hg (by decide) rfl, t4.out.setCell (p := ⟨nb, g * 9 + 6, none⟩) rfl _⟩
    · obtain rfl : tI = 1 := hth.out.symm
      go_wp2_with fail
      go_end0
      exact ⟨rfl, by rw [hTR.out]; exact h4.out.set 7 ((T3 g).setK true x) hg (by decide) rfl, t4.out.setCell (p := ⟨nb, g * 9 + 6 + 1, none⟩) rfl _⟩

variable {T : Tb} {v : Nat → Int} {sub seq : Nat → List Nat} {N : Nat} {pp par : Nat → Nat}

/-- What a lift makes of the table as it is kept. -/
theorem real_lift {x p : Nat} (hx : x ≠ 0) (hp : p ≠ 0) (ep : (T x).up = p) (e : pp p = pp x) (s : Bool) (b : Nat) (es : whr T x = s) (eb : (T x).k (!s) = b) :
    let T2 := hangT (hangT (real T pp) p s b) x (!s) p
    let T3 := upd T2 x { T2 x with up := (real T pp p).up }
    real (liftT T x) pp = if (T p).up = 0 then T3 else upd T3 (real T pp p).up ((T3 (real T pp p).up).setK (whr T p) x) := by
  have h2 : real (hangT (hangT T p s b) x (!s) p) pp = hangT (hangT (real T pp) p s b) x (!s) p := by rw [real_hang _ hx, real_hang _ hp]
  have hl : liftT T x = (if (T p).up = 0 then upd (hangT (hangT T p s b) x (!s) p) x { hangT (hangT T p s b) x (!s) p x with up := (T p).up } else upd (upd (hangT (hangT T p s b) x (!s) p) x { hangT (hangT T p s b) x (!s) p x with up := (T p).up }) (T p).up ((upd (hangT (hangT T p s b) x (!s) p) x { hangT (hangT T p s b) x (!s) p x with up := (T p).up } (T p).up).setK (whr T p) x)) := by
    unfold liftT
    rw [ep, es, eb]
  have h3 : real (upd (hangT (hangT T p s b) x (!s) p) x { hangT (hangT T p s b) x (!s) p x with up := (T p).up }) pp = upd (hangT (hangT (real T pp) p s b) x (!s) p) x { hangT (hangT (real T pp) p s b) x (!s) p x with up := (real T pp p).up } := by
    rw [real_upd, h2, ← h2]
    congr 1
    show rn pp x _ = _
    unfold rn
    have : (real T pp p).up = if (T p).up = 0 then pp x else (T p).up := by rw [← e]; rfl
    rw [this]
    rfl
  intro T2 T3
  have h3' : real (upd (hangT (hangT T p s b) x (!s) p) x { hangT (hangT T p s b) x (!s) p x with up := (T p).up }) pp = T3 := h3
  rw [hl]
  clear h2 hl h3
  generalize upd (hangT (hangT T p s b) x (!s) p) x { hangT (hangT T p s b) x (!s) p x with up := (T p).up } = X at h3'
  by_cases hg : (T p).up = 0
  · rw [if_pos hg, if_pos hg]; exact h3'
  · rw [if_neg hg, if_neg hg, real_upd, rn_setK, show rn pp (T p).up (X (T p).up) = real X pp (T p).up from rfl, h3', real_up1 hg]

theorem lift_ok (fb nb n x p b g c a : Nat) (s : Bool) (w : World) (h : Fo w fb nb n N (real T pp)) (hL : Lc N T v sub seq pp par) (hx0 : x ≠ 0) (hp0 : p ≠ 0) (hN : Near T x p b g c a s) (hx : x < N) (hp : p < N) (hb : b < N) (hc : c < N) (ha : a < N) :
    Calls Tryz.prog 121 #[.pointer (some ⟨fb, 0, none⟩), .int .i32 (x : Int)] w fun e w' => e = .returned (.tuple #[]) ∧ Fo w' fb nb n N (real (liftT T x) pp) ∧ Turned (fun k => k = nb) w w' := by
  obtain ⟨ep, es, es', eb, eg, ec, ea, nxp, nbx, nbp, nax, nap, nab, ncp, ncx, ncb, ngx, ngp, ngb⟩ := hN
  have hux : (T x).up ≠ 0 := by rw [ep]; exact hp0
  have hpp : pp p = pp x := hL.pst p x hp0 hx0 (by have := seq_up hL.gd.inv hx0 hux; rw [ep] at this; exact this)
  have hl := real_lift (T := T) (pp := pp) hx0 hp0 ep hpp s b es' eb
  have rp : (real T pp x).up = p := by rw [real_up1 hux]; exact ep
  have hgN := hL.up_lt p
  obtain ⟨G, hG⟩ : ∃ G, (real T pp p).up = G := ⟨_, rfl⟩
  rw [hG] at hl hgN
  have x1 : hangT (real T pp) p s b x = real T pp x := hangT_other nxp (fun _ => nbx.symm)
  have hw1 : Hid (∀ y, Fo y fb nb n N (real T pp) → Calls Tryz.prog 119 #[.pointer (some ⟨fb, 0, none⟩), .int .i32 (x : Int)] y fun e w' => e = .returned (.int .i64 (sI s)) ∧ w' = y.drew) := fun y hy => by
    have := where_ok fb nb n N x (real T pp) y hy hx (hL.up_lt x)
    rw [hL.where_in hx0 hux, es'] at this
    exact this
  have hw2 : Hid (∀ y, Fo y fb nb n N (real T pp) → Calls Tryz.prog 119 #[.pointer (some ⟨fb, 0, none⟩), .int .i32 (p : Int)] y fun e w' => e = .returned (.int .i64 (wI (real T pp) p)) ∧ w' = y.drew) := fun y hy => where_ok fb nb n N p (real T pp) y hy hp (hL.up_lt p)
  have hh1 : Hid (∀ y, Fo y fb nb n N (real T pp) → Calls Tryz.prog 115 #[.pointer (some ⟨fb, 0, none⟩), .int .i32 (p : Int), .int .i64 (sI s), .int .i32 (b : Int)] y fun e w' => e = .returned (.tuple #[]) ∧ Fo w' fb nb n N (hangT (real T pp) p s b) ∧ Turned (fun k => k = nb) y w') := fun y hy => hang_ok fb nb n N p b s (real T pp) y hy hp hb nbp (by rw [real_k, ec]; exact hc) (by rw [real_k, ec]; exact ncp)
  have hh2 : Hid (∀ y, Fo y fb nb n N (hangT (real T pp) p s b) → Calls Tryz.prog 115 #[.pointer (some ⟨fb, 0, none⟩), .int .i32 (x : Int), .int .i64 (sI (!s)), .int .i32 (p : Int)] y fun e w' => e = .returned (.tuple #[]) ∧ Fo w' fb nb n N (hangT (hangT (real T pp) p s b) x (!s) p) ∧ Turned (fun k => k = nb) y w') := fun y hy => hang_ok fb nb n N x p (!s) _ y hy hx hp nxp.symm (by rw [x1, real_k, Bool.not_not, ea]; exact ha) (by rw [x1, real_k, Bool.not_not, ea]; exact nax)
  have hR : Hid ((wI (real T pp) p = 2 ∧ real (liftT T x) pp = upd (hangT (hangT (real T pp) p s b) x (!s) p) x { hangT (hangT (real T pp) p s b) x (!s) p x with up := G }) ∨ (sI (whr T p) = wI (real T pp) p ∧ real (liftT T x) pp = upd (upd (hangT (hangT (real T pp) p s b) x (!s) p) x { hangT (hangT (real T pp) p s b) x (!s) p x with up := G }) G ((upd (hangT (hangT (real T pp) p s b) x (!s) p) x { hangT (hangT (real T pp) p s b) x (!s) p x with up := G } G).setK (whr T p) x))) := by
    by_cases hg : (T p).up = 0
    · left
      refine ⟨hL.where_top hp0 hg, ?_⟩
      rw [hl, if_pos hg]
    · right
      refine ⟨(hL.where_in hp0 hg).symm, ?_⟩
      rw [hl, if_neg hg]
  generalize real (liftT T x) pp = TR at hR ⊢
  generalize wI (real T pp) p = tI at hR hw2
  cases s
  · exact lift_l fb nb n N x p b G tI (whr T p) (real T pp) _ _ _ w h hx hp hb hgN rp ((real_k x true).trans eb) hG hR hw1 hw2 hh1 hh2
  · exact lift_r fb nb n N x p b G tI (whr T p) (real T pp) _ _ _ w h hx hp hb hgN rp ((real_k x false).trans eb) hG hR hw1 hw2 hh1 hh2

end Go.Proofs.YtdmkbcbgjdmgdaaGreatDoor.Ct
