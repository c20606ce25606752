/- Sequences as trees in a table: plain facts, of no program. -/
import Derived.WalkKit
namespace Go.Proofs.YtpelpcplagfdiaaDoor
open Go.RowKit

/-- A node: its value; sum, least, greatest, how many beneath; the one above, the two beneath; is it to be turned? -/
structure Nd where
  v : Int
  s : Int
  lo : Int
  hi : Int
  rest : Int
  up : Nat
  l : Nat
  r : Nat
  t : Bool

def nd0 : Nd := ⟨0, 0, 0, 0, 0, 0, 0, 0, false⟩
def ndN : Nd := ⟨0, 0, 9223372036854775807, -9223372036854775808, -1, 0, 0, 0, false⟩

abbrev Tb := Nat → Nd
def upd (T : Tb) (i : Nat) (x : Nd) : Tb := fun j => if j = i then x else T j
theorem upd_same (T : Tb) (i : Nat) (x : Nd) : upd T i x i = x := if_pos rfl
theorem upd_ne {T : Tb} {i j : Nat} {x : Nd} (h : j ≠ i) : upd T i x j = T j := if_neg h

def Nd.k (n : Nd) (s : Bool) : Nat := if s then n.r else n.l
def Nd.setK (n : Nd) (s : Bool) (k : Nat) : Nd := if s then { n with r := k } else { n with l := k }
theorem setK_k (n : Nd) (s : Bool) (k : Nat) : (n.setK s k).k s = k := by cases s <;> rfl
theorem setK_o (n : Nd) (s : Bool) (k : Nat) : (n.setK s k).k (!s) = n.k (!s) := by cases s <;> rfl
theorem setK_up (n : Nd) (s : Bool) (k : Nat) : (n.setK s k).up = n.up := by cases s <;> rfl
theorem setK_t (n : Nd) (s : Bool) (k : Nat) : (n.setK s k).t = n.t := by cases s <;> rfl
theorem setK_v (n : Nd) (s : Bool) (k : Nat) : (n.setK s k).v = n.v := by cases s <;> rfl
theorem setK_s (n : Nd) (s : Bool) (k : Nat) : (n.setK s k).s = n.s := by cases s <;> rfl
theorem setK_lo (n : Nd) (s : Bool) (k : Nat) : (n.setK s k).lo = n.lo := by cases s <;> rfl
theorem setK_hi (n : Nd) (s : Bool) (k : Nat) : (n.setK s k).hi = n.hi := by cases s <;> rfl
theorem setK_rest (n : Nd) (s : Bool) (k : Nat) : (n.setK s k).rest = n.rest := by cases s <;> rfl

def flp (b : Bool) (l : List Nat) : List Nat := if b then l.reverse else l
def cat (s : Bool) (a : List Nat) (x : Nat) (b : List Nat) : List Nat := if s then b ++ x :: a else a ++ x :: b
theorem cat_cat (s : Bool) (A B C : List Nat) (x p : Nat) : cat s (cat s A x B) p C = cat s A x (cat s B p C) := by cases s <;> simp [cat]
theorem cat_swap (s : Bool) (A B : List Nat) (x : Nat) : cat (!s) A x B = cat s B x A := by cases s <;> simp [cat]
theorem cat_len (s : Bool) (A B : List Nat) (x : Nat) : (cat s A x B).length = A.length + 1 + B.length := by cases s <;> simp [cat] <;> omega
theorem cat_mem (s : Bool) (A B : List Nat) (x y : Nat) : y ∈ cat s A x B ↔ y = x ∨ y ∈ A ∨ y ∈ B := by
  cases s <;> simp [cat] <;> constructor <;> intro h <;> rcases h with h | h | h <;> simp [h]
theorem flp_len (b : Bool) (l : List Nat) : (flp b l).length = l.length := by cases b <;> simp [flp]
theorem flp_mem (b : Bool) (l : List Nat) (y : Nat) : y ∈ flp b l ↔ y ∈ l := by cases b <;> simp [flp]
theorem flp_not (b : Bool) (l : List Nat) : flp (!b) l = (flp b l).reverse := by cases b <;> simp [flp]
theorem nodup_rev (l : List Nat) : l.reverse.Nodup ↔ l.Nodup := by
  unfold List.Nodup
  rw [List.pairwise_reverse]
  constructor <;> exact List.Pairwise.imp (fun h e => h e.symm)
theorem flp_nd (b : Bool) (l : List Nat) : (flp b l).Nodup ↔ l.Nodup := by
  cases b
  · exact Iff.rfl
  · exact nodup_rev l
theorem cat_rev (s : Bool) (A B : List Nat) (x : Nat) : (cat s A x B).reverse = cat s B.reverse x A.reverse := by cases s <;> simp [cat]

/-- What a list comes to. -/
def sumV (v : Nat → Int) : List Nat → Int
  | [] => 0
  | x :: l => v x + sumV v l
def lowV (v : Nat → Int) : List Nat → Int
  | [] => 9223372036854775807
  | x :: l => min (v x) (lowV v l)
def highV (v : Nat → Int) : List Nat → Int
  | [] => -9223372036854775808
  | x :: l => max (v x) (highV v l)

theorem sumV_append (v : Nat → Int) : ∀ a b, sumV v (a ++ b) = sumV v a + sumV v b
  | [], b => by simp [sumV]
  | x :: a, b => by simp [sumV, sumV_append v a b]; omega
theorem lowV_le (v : Nat → Int) : ∀ a, lowV v a ≤ 9223372036854775807
  | [] => by simp [lowV]
  | x :: a => by have := lowV_le v a; simp only [lowV]; omega
theorem highV_ge (v : Nat → Int) : ∀ a, -9223372036854775808 ≤ highV v a
  | [] => by simp [highV]
  | x :: a => by have := highV_ge v a; simp only [highV]; omega
theorem lowV_append (v : Nat → Int) : ∀ a b, lowV v (a ++ b) = min (lowV v a) (lowV v b)
  | [], b => by have := lowV_le v b; simp only [lowV, List.nil_append]; omega
  | x :: a, b => by simp only [lowV, List.cons_append, lowV_append v a b]; omega
theorem highV_append (v : Nat → Int) : ∀ a b, highV v (a ++ b) = max (highV v a) (highV v b)
  | [], b => by have := highV_ge v b; simp only [highV, List.nil_append]; omega
  | x :: a, b => by simp only [highV, List.cons_append, highV_append v a b]; omega
theorem sumV_rev (v : Nat → Int) : ∀ a, sumV v a.reverse = sumV v a
  | [] => rfl
  | x :: a => by rw [List.reverse_cons, sumV_append, sumV_rev v a]; simp [sumV]; omega
theorem lowV_rev (v : Nat → Int) : ∀ a, lowV v a.reverse = lowV v a
  | [] => rfl
  | x :: a => by have := lowV_le v a; rw [List.reverse_cons, lowV_append, lowV_rev v a]; simp only [lowV]; omega
theorem highV_rev (v : Nat → Int) : ∀ a, highV v a.reverse = highV v a
  | [] => rfl
  | x :: a => by have := highV_ge v a; rw [List.reverse_cons, highV_append, highV_rev v a]; simp only [highV]; omega

/-- A node's tallies are those of a list. -/
structure Tal (n : Nd) (v : Nat → Int) (l : List Nat) : Prop where
  rest : n.rest = (l.length : Int) - 1
  s : n.s = wrap64 (sumV v l)
  lo : n.lo = lowV v l
  hi : n.hi = highV v l

theorem Tal.rev {n : Nd} {v : Nat → Int} {l : List Nat} (h : Tal n v l) : Tal n v l.reverse :=
  ⟨by rw [List.length_reverse]; exact h.rest, by rw [sumV_rev]; exact h.s, by rw [lowV_rev]; exact h.lo, by rw [highV_rev]; exact h.hi⟩
theorem Tal.flp {n : Nd} {v : Nat → Int} {l : List Nat} (b : Bool) (h : Tal n v l) : Tal n v (flp b l) := by cases b; exact h; exact h.rev
theorem Tal.of {n m : Nd} {v : Nat → Int} {l : List Nat} (h : Tal n v l) (e1 : m.rest = n.rest) (e2 : m.s = n.s) (e3 : m.lo = n.lo) (e4 : m.hi = n.hi) : Tal m v l :=
  ⟨e1.trans h.rest, e2.trans h.s, e3.trans h.lo, e4.trans h.hi⟩

/-- A number of 32 bits. -/
def w32 (n : Int) : Int := IntKind.i32.wrap n
theorem w32_is (n : Int) : w32 n = (n + 2147483648) % 4294967296 - 2147483648 := IntKind.wrap_i32 n

/-- The least and the greatest of three, as they are found. -/
def mn (x y z : Int) : Int := if z < (if y < x then y else x) then z else (if y < x then y else x)
def mx (x y z : Int) : Int := if (if x < y then y else x) < z then z else (if x < y then y else x)
theorem mn_is (x y z : Int) : mn x y z = min (min x y) z := by unfold mn; split <;> split at * <;> omega
theorem mx_is (x y z : Int) : mx x y z = max (max x y) z := by unfold mx; split <;> split at * <;> omega

/-- What a node and the two beneath come to. -/
def tally (n a b : Nd) : Nd :=
  { n with rest := w32 (w32 (w32 (a.rest + 1) + b.rest) + 1), s := IntKind.i64.wrap (IntKind.i64.wrap (a.s + n.v) + b.s), lo := mn a.lo n.v b.lo, hi := mx a.hi n.v b.hi }

theorem tally_tal {n a b : Nd} {v : Nat → Int} {x : Nat} {A B : List Nat} (hv : n.v = v x) (ha : Tal a v A) (hb : Tal b v B) (hl : A.length + B.length ≤ 1000000000) (s : Bool) : Tal (tally n a b) v (cat s A x B) ∧ Tal (tally n a b) v (cat s B x A) := by
  have key : Tal (tally n a b) v (A ++ x :: B) := by
    have h1 := ha.rest
    have h2 := hb.rest
    have h3 := lowV_le v A
    have h4 := highV_ge v A
    refine ⟨?_, ?_, ?_, ?_⟩
    · simp only [tally, List.length_append, List.length_cons, w32_is]; omega
    · simp only [tally, sumV_append, sumV, ha.s, hb.s, hv, wrap64, IntKind.wrap_i64]; omega
    · simp only [tally, mn_is, lowV_append, lowV, ha.lo, hb.lo, hv]; omega
    · simp only [tally, mx_is, highV_append, highV, ha.hi, hb.hi, hv]; omega
  have key2 : Tal (tally n a b) v (B ++ x :: A) := by
    refine ⟨?_, ?_, ?_, ?_⟩
    · rw [key.rest]; simp; omega
    · rw [key.s]; congr 1; simp only [sumV_append, sumV]; omega
    · rw [key.lo]; simp only [lowV_append, lowV]; omega
    · rw [key.hi]; simp only [highV_append, highV]; omega
  cases s
  · exact ⟨key, key2⟩
  · exact ⟨key2, key⟩

/-- The table as trees: 'sub' what is at a node and beneath it, in order; 'seq' the whole sequence. -/
structure Inv (T : Tb) (v : Nat → Int) (sub seq : Nat → List Nat) : Prop where
  none : T 0 = ndN
  sub0 : sub 0 = []
  eqn : ∀ x, x ≠ 0 → ∀ s, sub x = flp (T x).t (cat s (sub ((T x).k s)) x (sub ((T x).k (!s))))
  upk : ∀ x, x ≠ 0 → ∀ s, (T x).k s ≠ 0 → (T ((T x).k s)).up = x
  kid : ∀ x, x ≠ 0 → (T x).up ≠ 0 → ∃ s, (T (T x).up).k s = x
  nd : ∀ x, (sub x).Nodup
  val : ∀ x, x ≠ 0 → (T x).v = v x
  tal : ∀ x, Tal (T x) v (sub x)
  root : ∀ x, x ≠ 0 → (T x).up = 0 → seq x = sub x
  climb : ∀ x, x ≠ 0 → (T x).up ≠ 0 → seq x = seq (T x).up

variable {T : Tb} {v : Nat → Int} {sub seq : Nat → List Nat}

theorem Inv.len (h : Inv T v sub seq) {x : Nat} (hx : x ≠ 0) (s : Bool) : (sub x).length = (sub ((T x).k s)).length + 1 + (sub ((T x).k (!s))).length := by
  rw [h.eqn x hx s, flp_len, cat_len]

theorem Inv.kid_lt (h : Inv T v sub seq) {x : Nat} (hx : x ≠ 0) (s : Bool) : (sub ((T x).k s)).length < (sub x).length := by
  rw [h.len hx s]; omega

theorem Inv.mem (h : Inv T v sub seq) {x : Nat} (hx : x ≠ 0) (s : Bool) (y : Nat) : y ∈ sub x ↔ y = x ∨ y ∈ sub ((T x).k s) ∨ y ∈ sub ((T x).k (!s)) := by
  rw [h.eqn x hx s, flp_mem, cat_mem]

theorem Inv.self (h : Inv T v sub seq) {x : Nat} (hx : x ≠ 0) : x ∈ sub x := (h.mem hx false x).2 (Or.inl rfl)

theorem Inv.up_lt (h : Inv T v sub seq) {x : Nat} (hx : x ≠ 0) (hu : (T x).up ≠ 0) : (sub x).length < (sub (T x).up).length := by
  obtain ⟨s, hs⟩ := h.kid x hx hu
  have := h.kid_lt hu s
  rw [hs] at this
  exact this

theorem Inv.kid_ne (h : Inv T v sub seq) {x : Nat} (hx : x ≠ 0) (s : Bool) : (T x).k s ≠ x := fun e => by
  have := h.kid_lt hx s; rw [e] at this; omega

/-- The two beneath are not the same. -/
theorem Inv.kids (h : Inv T v sub seq) {x : Nat} (hx : x ≠ 0) (s : Bool) (hk : (T x).k s ≠ 0) : (T x).k (!s) ≠ (T x).k s := fun e => by
  have hn := h.nd x
  rw [h.eqn x hx s, flp_nd, e] at hn
  have hm := h.self hk
  cases s
  · simp only [cat, Bool.false_eq_true, ↓reduceIte, List.nodup_append] at hn
    exact hn.2.2 _ hm _ (List.mem_cons_of_mem _ hm) rfl
  · simp only [cat, ↓reduceIte, List.nodup_append] at hn
    exact hn.2.2 _ hm _ (List.mem_cons_of_mem _ hm) rfl

theorem Inv.up0 (h : Inv T v sub seq) : (T 0).up = 0 := by rw [h.none]; rfl

/-- What is beneath a node is of its sequence, and has one above it. -/
theorem Inv.within (h : Inv T v sub seq) : ∀ (n x : Nat), (sub x).length ≤ n → x ≠ 0 → ∀ y, y ∈ sub x → y ≠ 0 ∧ seq y = seq x ∧ (y ≠ x → (T y).up ≠ 0)
  | 0, x, hn, hx, y, hy => by have := List.length_pos_of_mem hy; omega
  | n + 1, x, hn, hx, y, hy => by
    rcases (h.mem hx false y).1 hy with rfl | hy | hy
    · exact ⟨hx, rfl, fun e => absurd rfl e⟩
    all_goals
      have hk : ∀ s, y ∈ sub ((T x).k s) → y ≠ 0 ∧ seq y = seq x ∧ (y ≠ x → (T y).up ≠ 0) := by
        intro s hy
        have hz : (T x).k s ≠ 0 := fun e => by rw [e, h.sub0] at hy; cases hy
        have hup := h.upk x hx s hz
        obtain ⟨h1, h2, h3⟩ := h.within n _ (by have := h.kid_lt hx s; omega) hz y hy
        refine ⟨h1, h2.trans ((h.climb _ hz (by rw [hup]; exact hx)).trans (by rw [hup])), fun _ => ?_⟩
        by_cases e : y = (T x).k s
        · rw [e, hup]; exact hx
        · exact h3 e
      exact hk _ hy

theorem Inv.sub_seq (h : Inv T v sub seq) {x y : Nat} (hx : x ≠ 0) (hy : y ∈ sub x) : seq y = seq x := (h.within _ x (Nat.le_refl _) hx y hy).2.1
theorem Inv.sub_up (h : Inv T v sub seq) {x y : Nat} (hx : x ≠ 0) (hy : y ∈ sub x) (hne : y ≠ x) : (T y).up ≠ 0 := (h.within _ x (Nat.le_refl _) hx y hy).2.2 hne
theorem Inv.sub_ne (h : Inv T v sub seq) {x y : Nat} (hx : x ≠ 0) (hy : y ∈ sub x) : y ≠ 0 := (h.within _ x (Nat.le_refl _) hx y hy).1

/-- A sequence is what is beneath its top. -/
theorem Inv.top (h : Inv T v sub seq) {B : Nat} (hB : ∀ x, (sub x).length ≤ B) : ∀ (n x : Nat), B - (sub x).length ≤ n → x ≠ 0 → ∃ r, r ≠ 0 ∧ (T r).up = 0 ∧ seq x = sub r ∧ x ∈ sub r ∧ (∀ y, y ∈ sub x → y ∈ sub r)
  | n, x, hn, hx => by
    by_cases hu : (T x).up = 0
    · exact ⟨x, hx, hu, h.root x hx hu, h.self hx, fun _ e => e⟩
    · have hlt := h.up_lt hx hu
      have := hB (T x).up
      cases n with
      | zero => omega
      | succ n =>
        obtain ⟨r, h1, h2, h3, h4, h5⟩ := h.top hB n (T x).up (by omega) hu
        obtain ⟨s, hs⟩ := h.kid x hx hu
        have hin : ∀ y, y ∈ sub x → y ∈ sub (T x).up := fun y hy => (h.mem hu s y).2 (Or.inr (Or.inl (by rw [hs]; exact hy)))
        exact ⟨r, h1, h2, (h.climb x hx hu).trans h3, h5 _ (hin _ (h.self hx)), fun y hy => h5 y (hin y hy)⟩

/-- On which side of the one above a node is. -/
def whr (T : Tb) (x : Nat) : Bool := decide ((T (T x).up).r = x)

theorem Inv.onSide (h : Inv T v sub seq) {x : Nat} (hx : x ≠ 0) (hu : (T x).up ≠ 0) : (T (T x).up).k (whr T x) = x := by
  obtain ⟨s, hs⟩ := h.kid x hx hu
  by_cases e : (T (T x).up).r = x
  · have : whr T x = true := decide_eq_true e
    rw [this]; exact e
  · have hw : whr T x = false := decide_eq_false e
    rw [hw]
    cases s with
    | false => exact hs
    | true => exact absurd hs e

end Go.Proofs.YtpelpcplagfdiaaDoor
