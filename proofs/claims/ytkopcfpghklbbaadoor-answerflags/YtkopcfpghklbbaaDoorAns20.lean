/- Answers as bytes: plain mathematics. -/
import Derived.Test.YtkopcfpghklbbaaDoorCmd19
namespace Go.Proofs.YtkopcfpghklbbaaDoor
set_option linter.unusedVariables false
set_option linter.unusedSimpArgs false

/-- A dart: its edge's handle, and its side. -/
structure Dt where
  a : Nat
  p : Nat
  s : Int

/-- An answer. -/
structure An where
  err : Int
  hs : List (Nat × Nat)
  is : Bool
  n : Int
  ds : List Dt
  c0 : Int
  c1 : Int
  c2 : Int
  c3 : Int
  sum : Int
  d : List UInt8

def az : An := ⟨0, [], false, 0, [], 0, 0, 0, 0, 0, []⟩

/-- How many handles an answer of a code has; whether it tells that something is. -/
def hnd (k : Int) : Nat := if k = 1 ∨ k = 3 then 1 else if k = 16 then 2 else 0
def flg (k : Int) : Bool := decide (k = 6 ∨ k = 7 ∨ k = 8 ∨ k = 12)

/-- An answer that has nothing but its error. -/
abbrev nil20 (x : An) : Prop := x.hs = [] ∧ x.is = false ∧ x.n = 0 ∧ x.ds = [] ∧ (x.c0 = 0 ∧ x.c1 = 0 ∧ x.c2 = 0 ∧ x.c3 = 0) ∧ x.sum = 0 ∧ x.d = []
/-- An answer without an error that may be. -/
abbrev ok20 (k : Int) (x : An) : Prop :=
  0 < k ∧ x.hs.length = hnd k ∧ (x.is = false ∨ flg k = true) ∧ (x.n = 0 ∨ k = 9) ∧ (x.ds = [] ∨ k = 10 ∨ k = 17) ∧ (k ≠ 17 ∨ x.ds.length = 1) ∧
  ((x.c0 = 0 ∧ x.c1 = 0 ∧ x.c2 = 0 ∧ x.c3 = 0) ∨ k = 11) ∧ (x.sum = 0 ∨ k = 13) ∧ (x.d = [] ∨ k = 14) ∧ (0 ≤ x.n ∧ x.n ≤ 4294967295) ∧ x.ds.length ≤ 4194304 ∧ x.d.length ≤ 67108863 ∧
  ((0 ≤ x.c0 ∧ x.c0 ≤ 4294967295) ∧ (0 ≤ x.c1 ∧ x.c1 ≤ 4294967295) ∧ (0 ≤ x.c2 ∧ x.c2 ≤ 4294967295) ∧ (0 ≤ x.c3 ∧ x.c3 ≤ 4294967295)) ∧ ∀ y, y ∈ x.ds → y.s = 0 ∨ y.s = 1

/-- It may be an answer of this code. -/
abbrev may20 (k : Int) (x : An) : Prop := (x.err ≠ 0 ∧ 1 ≤ x.err ∧ x.err ≤ 255 ∧ nil20 x) ∨ (x.err = 0 ∧ ok20 k x)

def enh (h : Nat × Nat) : List UInt8 := be 4 h.1 ++ be 4 h.2
def endt (x : Dt) : List UInt8 := be 1 x.s.toNat ++ (be 4 x.a ++ be 4 x.p)
/-- What it has, as bytes. -/
def encB (k : Int) (x : An) : List UInt8 :=
  x.hs.flatMap enh ++ ((if flg k then be 1 (if x.is then 1 else 0) else []) ++ ((if k = 9 then be 4 x.n.toNat else []) ++ ((if k = 10 then be 4 x.ds.length else []) ++ (x.ds.flatMap endt ++
  ((if k = 11 then be 4 x.c0.toNat ++ (be 4 x.c1.toNat ++ (be 4 x.c2.toNat ++ be 4 x.c3.toNat)) else []) ++ ((if k = 13 then be 8 (x.sum % 18446744073709551616).toNat else []) ++ x.d))))))
def enc20 (k : Int) (x : An) : List UInt8 := be 1 x.err.toNat ++ (if x.err ≠ 0 then [] else encB k x)

def s64 (n : Nat) : Int := if n < 9223372036854775808 then (n : Int) else (n : Int) - 18446744073709551616
def rh20 (r : List UInt8) : Nat × Nat := (num (r.take 4), num ((r.drop 4).take 4))
def rd20 (r : List UInt8) : Dt := ⟨num ((r.drop 1).take 4), num ((r.drop 5).take 4), (num (r.take 1) : Int)⟩
def rds : Nat → List UInt8 → List Dt
  | 0, _ => []
  | m + 1, r => rd20 r :: rds m (r.drop 9)

theorem rds_len : ∀ (m : Nat) (r : List UInt8), (rds m r).length = m
  | 0, _ => rfl
  | m + 1, r => by rw [rds, List.length_cons, rds_len m]

/-- What a wellformed answer's numbers may be. -/
structure Wn (x : An) : Prop where
  h : ∀ y, y ∈ x.hs → y.1 < 4294967296 ∧ y.2 < 4294967296
  d : ∀ y, y ∈ x.ds → y.a < 4294967296 ∧ y.p < 4294967296
  s0 : -9223372036854775808 ≤ x.sum
  s1 : x.sum ≤ 9223372036854775807

/-- The answer of bytes behind an error's number 0. -/
def decB (k : Int) (r : List UInt8) : Option An :=
  if k = 1 ∨ k = 3 then (if r.length = 8 then some { az with hs := [rh20 r] } else none)
  else if k = 16 then (if r.length = 16 then some { az with hs := [rh20 r, rh20 (r.drop 8)] } else none)
  else if k = 6 ∨ k = 7 ∨ k = 8 ∨ k = 12 then (if r.length = 1 ∧ num r ≤ 1 then some { az with is := decide (num r = 1) } else none)
  else if k = 9 then (if r.length = 4 then some { az with n := (num r : Int) } else none)
  else if k = 10 then (if 4 ≤ r.length ∧ r.length = 4 + 9 * num (r.take 4) ∧ (∀ y, y ∈ rds (num (r.take 4)) (r.drop 4) → y.s = 0 ∨ y.s = 1) then some { az with ds := rds (num (r.take 4)) (r.drop 4) } else none)
  else if k = 17 then (if r.length = 9 ∧ ((rd20 r).s = 0 ∨ (rd20 r).s = 1) then some { az with ds := [rd20 r] } else none)
  else if k = 11 then (if r.length = 16 then some { az with c0 := (num (r.take 4) : Int), c1 := (num ((r.drop 4).take 4) : Int), c2 := (num ((r.drop 8).take 4) : Int), c3 := (num ((r.drop 12).take 4) : Int) } else none)
  else if k = 13 then (if r.length = 8 then some { az with sum := s64 (num r) } else none)
  else if k = 14 then some { az with d := r }
  else if k = 2 ∨ k = 4 ∨ k = 5 ∨ k = 15 then (if r.length = 0 then some az else none)
  else none

def dec20 (k : Int) : List UInt8 → Option An
  | [] => none
  | x :: r => if x.toNat ≠ 0 then (if r.length = 0 then some { az with err := (x.toNat : Int) } else none) else decB k r

theorem enh_len (h : Nat × Nat) : (enh h).length = 8 := by simp [enh, be_length]
theorem endt_len (x : Dt) : (endt x).length = 9 := by simp [endt, be_length]

theorem rh_en {h : Nat × Nat} (t : List UInt8) (h1 : h.1 < 4294967296) (h2 : h.2 < 4294967296) : rh20 (enh h ++ t) = h ∧ (enh h ++ t).drop 8 = t := by
  unfold rh20 enh
  simp only [List.append_assoc]
  refine ⟨?_, ?_⟩
  · rw [num_take_be 4 h.1 _ (by omega), drop_be, num_take_be 4 h.2 _ (by omega)]
  · rw [show 8 = 4 + 4 from rfl, ← List.drop_drop, drop_be, drop_be]

theorem rd_en {x : Dt} (t : List UInt8) (h1 : x.a < 4294967296) (h2 : x.p < 4294967296) (h3 : x.s = 0 ∨ x.s = 1) : rd20 (endt x ++ t) = x ∧ (endt x ++ t).drop 9 = t := by
  unfold rd20 endt
  simp only [List.append_assoc]
  refine ⟨?_, ?_⟩
  · rw [num_take_be 1 x.s.toNat _ (by omega), drop_be, num_take_be 4 x.a _ (by omega), show (5 : Nat) = 1 + 4 from rfl, ← List.drop_drop, drop_be, drop_be, num_take_be 4 x.p _ (by omega)]
    cases x
    simp only [Dt.mk.injEq, true_and]
    dsimp only at h3
    omega
  · rw [show 9 = 1 + (4 + 4) from rfl, ← List.drop_drop, drop_be, ← List.drop_drop, drop_be, drop_be]

theorem rds_en : ∀ (ds : List Dt) (t : List UInt8), (∀ y, y ∈ ds → y.a < 4294967296 ∧ y.p < 4294967296) → (∀ y, y ∈ ds → y.s = 0 ∨ y.s = 1) → rds ds.length (ds.flatMap endt ++ t) = ds
  | [], _, _, _ => rfl
  | x :: ds, t, h, g => by
    have hx := h x List.mem_cons_self
    have e := rd_en (ds.flatMap endt ++ t) hx.1 hx.2 (g x List.mem_cons_self)
    rw [List.length_cons, rds, List.flatMap_cons, List.append_assoc, e.1, e.2, rds_en ds t (fun y hy => h y (List.mem_cons_of_mem _ hy)) (fun y hy => g y (List.mem_cons_of_mem _ hy))]

theorem ds_len : ∀ (ds : List Dt), (ds.flatMap endt).length = 9 * ds.length
  | [] => rfl
  | x :: ds => by rw [List.flatMap_cons, List.length_append, endt_len, ds_len ds, List.length_cons]; omega

theorem en_rh (r : List UInt8) (h : 8 ≤ r.length) : enh (rh20 r) ++ r.drop 8 = r := by
  unfold rh20 enh
  simp only [List.append_assoc]
  rw [be_take4 r 4 (by omega), be_take4 (r.drop 4) 4 (by rw [List.length_drop]; omega), take_drop4 r 4 4]
  exact List.take_append_drop 4 r

theorem en_rd (r : List UInt8) (h : 9 ≤ r.length) : endt (rd20 r) ++ r.drop 9 = r := by
  unfold rd20 endt
  dsimp only
  rw [Int.toNat_natCast, be_take4 r 1 (by omega), be_take4 (r.drop 1) 4 (by rw [List.length_drop]; omega), be_take4 (r.drop 5) 4 (by rw [List.length_drop]; omega)]
  simp only [List.append_assoc]
  rw [take_drop4 r 5 4, take_drop4 r 1 4]
  exact List.take_append_drop 1 r

theorem en_rds : ∀ (m : Nat) (r : List UInt8), 9 * m ≤ r.length → (rds m r).flatMap endt ++ r.drop (9 * m) = r
  | 0, r, _ => by simp [rds]
  | m + 1, r, h => by
    have e := en_rds m (r.drop 9) (by rw [List.length_drop]; omega)
    rw [rds, List.flatMap_cons, List.append_assoc]
    rw [List.drop_drop] at e
    rw [show 9 * (m + 1) = 9 + 9 * m by omega, e]
    exact en_rd r (by omega)

theorem rh_lt (r : List UInt8) : (rh20 r).1 < 4294967296 ∧ (rh20 r).2 < 4294967296 := ⟨num_take_lt _ 4, num_take_lt _ 4⟩
theorem rd_lt (r : List UInt8) : (rd20 r).a < 4294967296 ∧ (rd20 r).p < 4294967296 := ⟨num_take_lt _ 4, num_take_lt _ 4⟩
theorem rds_lt : ∀ (m : Nat) (r : List UInt8) (y : Dt), y ∈ rds m r → y.a < 4294967296 ∧ y.p < 4294967296
  | 0, _, y, h => by simp [rds] at h
  | m + 1, r, y, h => by
    rw [rds, List.mem_cons] at h
    rcases h with rfl | h
    · exact rd_lt r
    · exact rds_lt m _ y h

theorem s64_of {z : Int} (h0 : -9223372036854775808 ≤ z) (h1 : z ≤ 9223372036854775807) : s64 (z % 18446744073709551616).toNat = z := by
  unfold s64
  split <;> omega
theorem s64_bd {n : Nat} (h : n < 18446744073709551616) : -9223372036854775808 ≤ s64 n ∧ s64 n ≤ 9223372036854775807 := by
  unfold s64
  split <;> omega
theorem s64_to {n : Nat} (h : n < 18446744073709551616) : (s64 n % 18446744073709551616).toNat = n := by
  unfold s64
  split <;> omega

theorem num_be' (n v : Nat) (h : v < 256 ^ n) : num (be n v) = v := by rw [num_be, Nat.mod_eq_of_lt h]
theorem be_num' {l : List UInt8} {n : Nat} (h : l.length = n) : be n (num l) = l := by rw [← h]; exact be_num l

theorem flg_iff (k : Int) : flg k = true ↔ (k = 6 ∨ k = 7 ∨ k = 8 ∨ k = 12) := by unfold flg; simp

theorem decB_h1 {k : Int} (g : k = 1 ∨ k = 3) (r : List UInt8) : decB k r = (if r.length = 8 then some { az with hs := [rh20 r] } else none) := by
  unfold decB
  rw [if_pos g]
theorem decB_h2 {k : Int} (g : k = 16) (r : List UInt8) : decB k r = (if r.length = 16 then some { az with hs := [rh20 r, rh20 (r.drop 8)] } else none) := by
  unfold decB
  rw [if_neg (by omega)]
  rw [if_pos g]
theorem decB_fl {k : Int} (g : k = 6 ∨ k = 7 ∨ k = 8 ∨ k = 12) (r : List UInt8) : decB k r = (if r.length = 1 ∧ num r ≤ 1 then some { az with is := decide (num r = 1) } else none) := by
  unfold decB
  rw [if_neg (by omega)]
  rw [if_neg (by omega)]
  rw [if_pos g]
theorem decB_n {k : Int} (g : k = 9) (r : List UInt8) : decB k r = (if r.length = 4 then some { az with n := (num r : Int) } else none) := by
  unfold decB
  rw [if_neg (by omega)]
  rw [if_neg (by omega)]
  rw [if_neg (by omega)]
  rw [if_pos g]
theorem decB_ds {k : Int} (g : k = 10) (r : List UInt8) : decB k r = (if 4 ≤ r.length ∧ r.length = 4 + 9 * num (r.take 4) ∧ (∀ y, y ∈ rds (num (r.take 4)) (r.drop 4) → y.s = 0 ∨ y.s = 1) then some { az with ds := rds (num (r.take 4)) (r.drop 4) } else none) := by
  unfold decB
  rw [if_neg (by omega)]
  rw [if_neg (by omega)]
  rw [if_neg (by omega)]
  rw [if_neg (by omega)]
  rw [if_pos g]
theorem decB_d1 {k : Int} (g : k = 17) (r : List UInt8) : decB k r = (if r.length = 9 ∧ ((rd20 r).s = 0 ∨ (rd20 r).s = 1) then some { az with ds := [rd20 r] } else none) := by
  unfold decB
  rw [if_neg (by omega)]
  rw [if_neg (by omega)]
  rw [if_neg (by omega)]
  rw [if_neg (by omega)]
  rw [if_neg (by omega)]
  rw [if_pos g]
theorem decB_c {k : Int} (g : k = 11) (r : List UInt8) : decB k r = (if r.length = 16 then some { az with c0 := (num (r.take 4) : Int), c1 := (num ((r.drop 4).take 4) : Int), c2 := (num ((r.drop 8).take 4) : Int), c3 := (num ((r.drop 12).take 4) : Int) } else none) := by
  unfold decB
  rw [if_neg (by omega)]
  rw [if_neg (by omega)]
  rw [if_neg (by omega)]
  rw [if_neg (by omega)]
  rw [if_neg (by omega)]
  rw [if_neg (by omega)]
  rw [if_pos g]
theorem decB_s {k : Int} (g : k = 13) (r : List UInt8) : decB k r = (if r.length = 8 then some { az with sum := s64 (num r) } else none) := by
  unfold decB
  rw [if_neg (by omega)]
  rw [if_neg (by omega)]
  rw [if_neg (by omega)]
  rw [if_neg (by omega)]
  rw [if_neg (by omega)]
  rw [if_neg (by omega)]
  rw [if_neg (by omega)]
  rw [if_pos g]
theorem decB_d {k : Int} (g : k = 14) (r : List UInt8) : decB k r = some { az with d := r } := by
  unfold decB
  rw [if_neg (by omega)]
  rw [if_neg (by omega)]
  rw [if_neg (by omega)]
  rw [if_neg (by omega)]
  rw [if_neg (by omega)]
  rw [if_neg (by omega)]
  rw [if_neg (by omega)]
  rw [if_neg (by omega)]
  rw [if_pos g]
theorem decB_z {k : Int} (g : k = 2 ∨ k = 4 ∨ k = 5 ∨ k = 15) (r : List UInt8) : decB k r = (if r.length = 0 then some az else none) := by
  unfold decB
  rw [if_neg (by omega)]
  rw [if_neg (by omega)]
  rw [if_neg (by omega)]
  rw [if_neg (by omega)]
  rw [if_neg (by omega)]
  rw [if_neg (by omega)]
  rw [if_neg (by omega)]
  rw [if_neg (by omega)]
  rw [if_neg (by omega)]
  rw [if_pos g]

/-- An answer is its bytes' answer. -/
theorem decB_encB {k : Int} {x : An} (hk : k ≤ 17) (h : ok20 k x) (hw : Wn x) (he : x.err = 0) : decB k (encB k x) = some x := by
  obtain ⟨err, hs, is, n, ds, c0, c1, c2, c3, sum, d⟩ := x
  obtain ⟨h0, h1, h2, h3, h4, h5, h6, h7, h8, h9, h10, h11, h12, h13⟩ := h
  have hh := hw.h
  have hd := hw.d
  have hs0 := hw.s0
  have hs1 := hw.s1
  dsimp only at *
  subst he
  rw [flg_iff] at h2
  have zi : ¬ (k = 6 ∨ k = 7 ∨ k = 8 ∨ k = 12) → is = false := fun q => by rcases h2 with g | g; exact g; exact absurd g q
  have zn : ¬ k = 9 → n = 0 := fun q => by omega
  have zd : ¬ (k = 10 ∨ k = 17) → ds = [] := fun q => by rcases h4 with g | g; exact g; exact absurd g q
  have zc : ¬ k = 11 → c0 = 0 ∧ c1 = 0 ∧ c2 = 0 ∧ c3 = 0 := fun q => by omega
  have zs : ¬ k = 13 → sum = 0 := fun q => by omega
  have zD : ¬ k = 14 → d = [] := fun q => by rcases h8 with g | g; exact g; exact absurd g q
  have zh : ¬ (k = 1 ∨ k = 3 ∨ k = 16) → hs = [] := fun q => by
    unfold hnd at h1
    rw [if_neg (by omega), if_neg (by omega)] at h1
    exact List.eq_nil_of_length_eq_zero h1
  have fl : ∀ q : ¬ (k = 6 ∨ k = 7 ∨ k = 8 ∨ k = 12), ¬ flg k = true := fun q g => q ((flg_iff k).1 g)
  clear h2 h3 h4 h7 h8
  rcases (by omega : (k = 1 ∨ k = 3) ∨ k = 16 ∨ (k = 6 ∨ k = 7 ∨ k = 8 ∨ k = 12) ∨ k = 9 ∨ k = 10 ∨ k = 17 ∨ k = 11 ∨ k = 13 ∨ k = 14 ∨ (k = 2 ∨ k = 4 ∨ k = 5 ∨ k = 15)) with g | g | g | g | g | g | g | g | g | g
  · have hf : flg k = false := by simpa using fl (by omega)
    have n9 : ¬ k = 9 := by omega
    have n10 : ¬ k = 10 := by omega
    have n11 : ¬ k = 11 := by omega
    have n13 : ¬ k = 13 := by omega
    have a2 := zi (by omega)
    subst a2
    have a3 := zn (by omega)
    subst a3
    have a4 := zd (by omega)
    subst a4
    obtain ⟨e1, e2, e3, e4⟩ := zc (by omega)
    subst e1 e2 e3 e4
    have a5 := zs (by omega)
    subst a5
    have a6 := zD (by omega)
    subst a6
    have hl : hs.length = 1 := by rw [h1]; unfold hnd; rw [if_pos g]
    obtain ⟨y, rfl⟩ := List.length_eq_one_iff.1 hl
    have hy := hh y (by simp)
    have r := rh_en (h := y) [] hy.1 hy.2
    rw [List.append_nil] at r
    simp only [encB, hf, n9, n10, n11, n13, if_false, if_true, Bool.false_eq_true, List.flatMap_cons, List.flatMap_nil, List.nil_append, List.append_nil]
    rw [decB_h1 g]
    rw [if_pos (enh_len y), r.1]
    rfl
  · subst g
    have hf : flg 16 = false := by simpa using fl (by omega)
    have n9 : ¬ (16 : Int) = 9 := by omega
    have n10 : ¬ (16 : Int) = 10 := by omega
    have n11 : ¬ (16 : Int) = 11 := by omega
    have n13 : ¬ (16 : Int) = 13 := by omega
    have a2 := zi (by omega)
    subst a2
    have a3 := zn (by omega)
    subst a3
    have a4 := zd (by omega)
    subst a4
    obtain ⟨e1, e2, e3, e4⟩ := zc (by omega)
    subst e1 e2 e3 e4
    have a5 := zs (by omega)
    subst a5
    have a6 := zD (by omega)
    subst a6
    have hl : hs.length = 2 := by rw [h1]; unfold hnd; rw [if_neg (by omega), if_pos rfl]
    match hs, hl, hh with
    | [y, z], _, hh =>
    have hy := hh y (by simp)
    have hz := hh z (by simp)
    have r := rh_en (h := y) (enh z) hy.1 hy.2
    have r2 := rh_en (h := z) [] hz.1 hz.2
    rw [List.append_nil] at r2
    simp only [encB, hf, n9, n10, n11, n13, eq_self, if_false, if_true, Bool.false_eq_true, List.flatMap_cons, List.flatMap_nil, List.nil_append, List.append_nil]
    rw [decB_h2 rfl]
    rw [if_pos (by rw [List.length_append, enh_len, enh_len]), r.1, r.2, r2.1]
    rfl
  · have hf : flg k = true := (flg_iff k).2 g
    have n9 : ¬ k = 9 := by omega
    have n10 : ¬ k = 10 := by omega
    have n11 : ¬ k = 11 := by omega
    have n13 : ¬ k = 13 := by omega
    have a1 := zh (by omega)
    subst a1
    have a3 := zn (by omega)
    subst a3
    have a4 := zd (by omega)
    subst a4
    obtain ⟨e1, e2, e3, e4⟩ := zc (by omega)
    subst e1 e2 e3 e4
    have a5 := zs (by omega)
    subst a5
    have a6 := zD (by omega)
    subst a6
    simp only [encB, hf, n9, n10, n11, n13, if_false, if_true, Bool.false_eq_true, List.flatMap_cons, List.flatMap_nil, List.nil_append, List.append_nil]
    rw [decB_fl g]
    cases is <;> rfl
  · subst g
    have hf : flg 9 = false := by simpa using fl (by omega)
    have n10 : ¬ (9 : Int) = 10 := by omega
    have n11 : ¬ (9 : Int) = 11 := by omega
    have n13 : ¬ (9 : Int) = 13 := by omega
    have a1 := zh (by omega)
    subst a1
    have a2 := zi (by omega)
    subst a2
    have a4 := zd (by omega)
    subst a4
    obtain ⟨e1, e2, e3, e4⟩ := zc (by omega)
    subst e1 e2 e3 e4
    have a5 := zs (by omega)
    subst a5
    have a6 := zD (by omega)
    subst a6
    simp only [encB, hf, n10, n11, n13, eq_self, if_false, if_true, Bool.false_eq_true, List.flatMap_cons, List.flatMap_nil, List.nil_append, List.append_nil]
    rw [decB_n rfl]
    rw [if_pos (be_length 4 _), num_be' 4 n.toNat (by omega), Int.toNat_of_nonneg (by omega)]
    rfl
  · subst g
    have hf : flg 10 = false := by simpa using fl (by omega)
    have n9 : ¬ (10 : Int) = 9 := by omega
    have n11 : ¬ (10 : Int) = 11 := by omega
    have n13 : ¬ (10 : Int) = 13 := by omega
    have a1 := zh (by omega)
    subst a1
    have a2 := zi (by omega)
    subst a2
    have a3 := zn (by omega)
    subst a3
    obtain ⟨e1, e2, e3, e4⟩ := zc (by omega)
    subst e1 e2 e3 e4
    have a5 := zs (by omega)
    subst a5
    have a6 := zD (by omega)
    subst a6
    have r := rds_en ds [] hd h13
    rw [List.append_nil] at r
    simp only [encB, hf, n9, n11, n13, eq_self, if_false, if_true, Bool.false_eq_true, List.flatMap_cons, List.flatMap_nil, List.nil_append, List.append_nil]
    rw [decB_ds rfl]
    rw [num_take_be 4 ds.length _ (by omega), drop_be, r, if_pos ⟨by rw [List.length_append, be_length]; omega, by rw [List.length_append, be_length, ds_len], h13⟩]
    rfl
  · subst g
    have hf : flg 17 = false := by simpa using fl (by omega)
    have n9 : ¬ (17 : Int) = 9 := by omega
    have n10 : ¬ (17 : Int) = 10 := by omega
    have n11 : ¬ (17 : Int) = 11 := by omega
    have n13 : ¬ (17 : Int) = 13 := by omega
    have a1 := zh (by omega)
    subst a1
    have a2 := zi (by omega)
    subst a2
    have a3 := zn (by omega)
    subst a3
    obtain ⟨e1, e2, e3, e4⟩ := zc (by omega)
    subst e1 e2 e3 e4
    have a5 := zs (by omega)
    subst a5
    have a6 := zD (by omega)
    subst a6
    have hl : ds.length = 1 := by rcases h5 with q | q; exact absurd rfl q; exact q
    obtain ⟨y, rfl⟩ := List.length_eq_one_iff.1 hl
    have hy := hd y (by simp)
    have hys := h13 y (by simp)
    have r := rd_en (x := y) [] hy.1 hy.2 hys
    rw [List.append_nil] at r
    simp only [encB, hf, n9, n10, n11, n13, eq_self, if_false, if_true, Bool.false_eq_true, List.flatMap_cons, List.flatMap_nil, List.nil_append, List.append_nil]
    rw [decB_d1 rfl]
    rw [r.1, if_pos ⟨endt_len y, hys⟩]
    rfl
  · subst g
    have hf : flg 11 = false := by simpa using fl (by omega)
    have n9 : ¬ (11 : Int) = 9 := by omega
    have n10 : ¬ (11 : Int) = 10 := by omega
    have n13 : ¬ (11 : Int) = 13 := by omega
    have a1 := zh (by omega)
    subst a1
    have a2 := zi (by omega)
    subst a2
    have a3 := zn (by omega)
    subst a3
    have a4 := zd (by omega)
    subst a4
    have a5 := zs (by omega)
    subst a5
    have a6 := zD (by omega)
    subst a6
    simp only [encB, hf, n9, n10, n13, eq_self, if_false, if_true, Bool.false_eq_true, List.flatMap_cons, List.flatMap_nil, List.nil_append, List.append_nil]
    rw [decB_c rfl]
    rw [if_pos (by simp [be_length]), num_take_be 4 c0.toNat _ (by omega), drop_be, num_take_be 4 c1.toNat _ (by omega), show (8 : Nat) = 4 + 4 from rfl, ← List.drop_drop, drop_be, drop_be, num_take_be 4 c2.toNat _ (by omega), show (12 : Nat) = 4 + (4 + 4) from rfl, ← List.drop_drop, ← List.drop_drop, drop_be, drop_be, drop_be, List.take_of_length_le (by rw [be_length]; exact Nat.le_refl _), num_be' 4 c3.toNat (by omega), Int.toNat_of_nonneg (by omega), Int.toNat_of_nonneg (by omega), Int.toNat_of_nonneg (by omega), Int.toNat_of_nonneg (by omega)]
    rfl
  · subst g
    have hf : flg 13 = false := by simpa using fl (by omega)
    have n9 : ¬ (13 : Int) = 9 := by omega
    have n10 : ¬ (13 : Int) = 10 := by omega
    have n11 : ¬ (13 : Int) = 11 := by omega
    have a1 := zh (by omega)
    subst a1
    have a2 := zi (by omega)
    subst a2
    have a3 := zn (by omega)
    subst a3
    have a4 := zd (by omega)
    subst a4
    obtain ⟨e1, e2, e3, e4⟩ := zc (by omega)
    subst e1 e2 e3 e4
    have a6 := zD (by omega)
    subst a6
    simp only [encB, hf, n9, n10, n11, eq_self, if_false, if_true, Bool.false_eq_true, List.flatMap_cons, List.flatMap_nil, List.nil_append, List.append_nil]
    rw [decB_s rfl]
    rw [if_pos (be_length 8 _), num_be' 8 _ (by omega), s64_of hs0 hs1]
    rfl
  · subst g
    have hf : flg 14 = false := by simpa using fl (by omega)
    have n9 : ¬ (14 : Int) = 9 := by omega
    have n10 : ¬ (14 : Int) = 10 := by omega
    have n11 : ¬ (14 : Int) = 11 := by omega
    have n13 : ¬ (14 : Int) = 13 := by omega
    have a1 := zh (by omega)
    subst a1
    have a2 := zi (by omega)
    subst a2
    have a3 := zn (by omega)
    subst a3
    have a4 := zd (by omega)
    subst a4
    obtain ⟨e1, e2, e3, e4⟩ := zc (by omega)
    subst e1 e2 e3 e4
    have a5 := zs (by omega)
    subst a5
    simp only [encB, hf, n9, n10, n11, n13, eq_self, if_false, if_true, Bool.false_eq_true, List.flatMap_cons, List.flatMap_nil, List.nil_append, List.append_nil]
    rw [decB_d rfl]
    rfl
  · have hf : flg k = false := by simpa using fl (by omega)
    have n9 : ¬ k = 9 := by omega
    have n10 : ¬ k = 10 := by omega
    have n11 : ¬ k = 11 := by omega
    have n13 : ¬ k = 13 := by omega
    have a1 := zh (by omega)
    subst a1
    have a2 := zi (by omega)
    subst a2
    have a3 := zn (by omega)
    subst a3
    have a4 := zd (by omega)
    subst a4
    obtain ⟨e1, e2, e3, e4⟩ := zc (by omega)
    subst e1 e2 e3 e4
    have a5 := zs (by omega)
    subst a5
    have a6 := zD (by omega)
    subst a6
    simp only [encB, hf, n9, n10, n11, n13, if_false, if_true, Bool.false_eq_true, List.flatMap_cons, List.flatMap_nil, List.nil_append, List.append_nil]
    rw [decB_z g]
    rfl

theorem encB_h1 {k : Int} {r : List UInt8} {x : An} (g : k = 1 ∨ k = 3) (hr : r.length ≤ 1000000) (h : decB k r = some x) : ok20 k x ∧ x.err = 0 ∧ encB k x = r ∧ Wn x := by
  rw [decB_h1 g] at h
  split at h
  · next hl =>
    injection h with h
    subst h
    refine ⟨?_, rfl, ?_, ⟨fun y hy => by rw [List.mem_singleton.1 hy]; exact rh_lt r, fun y hy => by simp [az] at hy, by simp [az], by simp [az]⟩⟩
    · rcases g with rfl | rfl <;> simp [ok20, az, hnd, flg]
    · rcases g with rfl | rfl
      all_goals
        have e := en_rh r (by omega)
        rw [List.drop_of_length_le (by omega), List.append_nil] at e
        simpa [encB, az, flg] using e
  · cases h

theorem encB_h2 {k : Int} {r : List UInt8} {x : An} (g : k = 16) (hr : r.length ≤ 1000000) (h : decB k r = some x) : ok20 k x ∧ x.err = 0 ∧ encB k x = r ∧ Wn x := by
  rw [decB_h2 g] at h
  split at h
  · next hl =>
    injection h with h
    subst h
    refine ⟨?_, rfl, ?_, ⟨fun y hy => by
      rcases List.mem_cons.1 hy with q | q
      · rw [q]; exact rh_lt r
      · rw [List.mem_singleton.1 q]; exact rh_lt _, fun y hy => by simp [az] at hy, by simp [az], by simp [az]⟩⟩
    · subst g
      simp [ok20, az, hnd, flg]
    · subst g
      have e := en_rh r (by omega)
      have e2 := en_rh (r.drop 8) (by rw [List.length_drop]; omega)
      have e3 : (r.drop 8).drop 8 = [] := List.drop_of_length_le (by rw [List.length_drop]; omega)
      rw [e3, List.append_nil] at e2
      rw [← e2] at e
      simpa [encB, az, flg] using e
  · cases h

theorem encB_fl {k : Int} {r : List UInt8} {x : An} (g : k = 6 ∨ k = 7 ∨ k = 8 ∨ k = 12) (hr : r.length ≤ 1000000) (h : decB k r = some x) : ok20 k x ∧ x.err = 0 ∧ encB k x = r ∧ Wn x := by
  rw [decB_fl g] at h
  split at h
  · next hl =>
    injection h with h
    subst h
    refine ⟨?_, rfl, ?_, ⟨fun y hy => by simp [az] at hy, fun y hy => by simp [az] at hy, by simp [az], by simp [az]⟩⟩
    · rcases g with rfl | rfl | rfl | rfl <;> simp [ok20, az, hnd, flg]
    · rcases g with rfl | rfl | rfl | rfl
      all_goals
        obtain ⟨y, rfl⟩ := List.length_eq_one_iff.1 hl.1
        have h2 := hl.2
        simp only [num, List.foldl_cons, List.foldl_nil, Nat.mul_zero, Nat.zero_add] at h2 ⊢
        rcases (by omega : y.toNat = 0 ∨ y.toNat = 1) with q | q
        · have : y = 0 := UInt8.toNat_inj.1 q
          subst this
          rfl
        · have : y = 1 := UInt8.toNat_inj.1 q
          subst this
          rfl
  · cases h

theorem encB_n {k : Int} {r : List UInt8} {x : An} (g : k = 9) (hr : r.length ≤ 1000000) (h : decB k r = some x) : ok20 k x ∧ x.err = 0 ∧ encB k x = r ∧ Wn x := by
  rw [decB_n g] at h
  split at h
  · next hl =>
    injection h with h
    subst h
    have hb : num r < 4294967296 := by have := num_lt r; rw [hl] at this; exact this
    refine ⟨?_, rfl, ?_, ⟨fun y hy => by simp [az] at hy, fun y hy => by simp [az] at hy, by simp [az], by simp [az]⟩⟩
    · subst g
      simp [ok20, az, hnd, flg]; omega
    · subst g
      have e := be_num' hl
      simpa [encB, az, flg] using e
  · cases h

theorem encB_ds {k : Int} {r : List UInt8} {x : An} (g : k = 10) (hr : r.length ≤ 1000000) (h : decB k r = some x) : ok20 k x ∧ x.err = 0 ∧ encB k x = r ∧ Wn x := by
  rw [decB_ds g] at h
  split at h
  · next hl =>
    injection h with h
    subst h
    have hb : 9 * num (r.take 4) ≤ (r.drop 4).length := by rw [List.length_drop]; omega
    refine ⟨?_, rfl, ?_, ⟨fun y hy => by simp [az] at hy, fun y hy => rds_lt _ _ y hy, by simp [az], by simp [az]⟩⟩
    · subst g
      refine ⟨by decide, rfl, .inl rfl, .inl rfl, .inr (.inl rfl), .inl (by decide), .inl ⟨rfl, rfl, rfl, rfl⟩, .inl rfl, .inl rfl, ⟨by simp [az], by simp [az]⟩, by rw [rds_len]; omega, by simp [az], ⟨⟨by simp [az], by simp [az]⟩, ⟨by simp [az], by simp [az]⟩, ⟨by simp [az], by simp [az]⟩, ⟨by simp [az], by simp [az]⟩⟩, hl.2.2⟩
    · subst g
      have e := en_rds (num (r.take 4)) (r.drop 4) hb
      have e0 : (r.drop 4).drop (9 * num (r.take 4)) = [] := List.drop_of_length_le (by rw [List.length_drop]; omega)
      rw [e0, List.append_nil] at e
      have e2 := be_take4 r 4 hl.1
      have e3 : be 4 (rds (num (r.take 4)) (r.drop 4)).length ++ (rds (num (r.take 4)) (r.drop 4)).flatMap endt = r := by rw [rds_len, e, e2, List.take_append_drop]
      simpa [encB, az, flg] using e3
  · cases h

theorem encB_d1 {k : Int} {r : List UInt8} {x : An} (g : k = 17) (hr : r.length ≤ 1000000) (h : decB k r = some x) : ok20 k x ∧ x.err = 0 ∧ encB k x = r ∧ Wn x := by
  rw [decB_d1 g] at h
  split at h
  · next hl =>
    injection h with h
    subst h
    refine ⟨?_, rfl, ?_, ⟨fun y hy => by simp [az] at hy, fun y hy => by rw [List.mem_singleton.1 hy]; exact rd_lt r, by simp [az], by simp [az]⟩⟩
    · subst g
      refine ⟨by decide, rfl, .inl rfl, .inl rfl, .inr (.inr rfl), .inr rfl, .inl ⟨rfl, rfl, rfl, rfl⟩, .inl rfl, .inl rfl, ⟨by simp [az], by simp [az]⟩, by simp, by simp [az], ⟨⟨by simp [az], by simp [az]⟩, ⟨by simp [az], by simp [az]⟩, ⟨by simp [az], by simp [az]⟩, ⟨by simp [az], by simp [az]⟩⟩, fun y hy => by rw [List.mem_singleton.1 hy]; exact hl.2⟩
    · subst g
      have e := en_rd r (by omega)
      rw [List.drop_of_length_le (by omega), List.append_nil] at e
      simpa [encB, az, flg] using e
  · cases h

theorem encB_c {k : Int} {r : List UInt8} {x : An} (g : k = 11) (hr : r.length ≤ 1000000) (h : decB k r = some x) : ok20 k x ∧ x.err = 0 ∧ encB k x = r ∧ Wn x := by
  rw [decB_c g] at h
  split at h
  · next hl =>
    injection h with h
    subst h
    have b0 : num (r.take 4) < 4294967296 := num_take_lt _ 4
    have b1 : num ((r.drop 4).take 4) < 4294967296 := num_take_lt _ 4
    have b2 : num ((r.drop 8).take 4) < 4294967296 := num_take_lt _ 4
    have b3 : num ((r.drop 12).take 4) < 4294967296 := num_take_lt _ 4
    refine ⟨?_, rfl, ?_, ⟨fun y hy => by simp [az] at hy, fun y hy => by simp [az] at hy, by simp [az], by simp [az]⟩⟩
    · subst g
      simp [ok20, az, hnd, flg]; omega
    · subst g
      have e0 := be_take4 r 4 (by omega)
      have e1 := be_take4 (r.drop 4) 4 (by rw [List.length_drop]; omega)
      have e2 := be_take4 (r.drop 8) 4 (by rw [List.length_drop]; omega)
      have e3 := be_take4 (r.drop 12) 4 (by rw [List.length_drop]; omega)
      have e4 : be 4 (num (r.take 4)) ++ (be 4 (num ((r.drop 4).take 4)) ++ (be 4 (num ((r.drop 8).take 4)) ++ be 4 (num ((r.drop 12).take 4)))) = r := by
        rw [e0, e1, e2, e3, List.take_of_length_le (by rw [List.length_drop]; omega : ((r.drop 12)).length ≤ 4), take_drop4 r 8 4, take_drop4 r 4 4]
        exact List.take_append_drop 4 r
      simpa [encB, az, flg] using e4
  · cases h

theorem encB_s {k : Int} {r : List UInt8} {x : An} (g : k = 13) (hr : r.length ≤ 1000000) (h : decB k r = some x) : ok20 k x ∧ x.err = 0 ∧ encB k x = r ∧ Wn x := by
  rw [decB_s g] at h
  split at h
  · next hl =>
    injection h with h
    subst h
    have hb : num r < 18446744073709551616 := by have := num_lt r; rw [hl] at this; exact this
    refine ⟨?_, rfl, ?_, ⟨fun y hy => by simp [az] at hy, fun y hy => by simp [az] at hy, (s64_bd hb).1, (s64_bd hb).2⟩⟩
    · subst g
      simp [ok20, az, hnd, flg]
    · subst g
      have e := be_num' hl
      have e2 := s64_to hb
      simp only [encB, az, flg]
      simp [e2, e]
  · cases h

theorem encB_d {k : Int} {r : List UInt8} {x : An} (g : k = 14) (hr : r.length ≤ 1000000) (h : decB k r = some x) : ok20 k x ∧ x.err = 0 ∧ encB k x = r ∧ Wn x := by
  rw [decB_d g] at h
  injection h with h
  subst h
  refine ⟨?_, rfl, ?_, ⟨fun y hy => by simp [az] at hy, fun y hy => by simp [az] at hy, by simp [az], by simp [az]⟩⟩
  · subst g
    simp [ok20, az, hnd, flg]; omega
  · subst g
    simp [encB, az, flg]

theorem encB_z {k : Int} {r : List UInt8} {x : An} (g : k = 2 ∨ k = 4 ∨ k = 5 ∨ k = 15) (hr : r.length ≤ 1000000) (h : decB k r = some x) : ok20 k x ∧ x.err = 0 ∧ encB k x = r ∧ Wn x := by
  rw [decB_z g] at h
  split at h
  · next hl =>
    injection h with h
    subst h
    refine ⟨?_, rfl, ?_, ⟨fun y hy => by simp [az] at hy, fun y hy => by simp [az] at hy, by simp [az], by simp [az]⟩⟩
    · rcases g with rfl | rfl | rfl | rfl <;> simp [ok20, az, hnd, flg]
    · rcases g with rfl | rfl | rfl | rfl
      all_goals
        have e := List.eq_nil_of_length_eq_zero hl
        subst e
        simp [encB, az, flg]
  · cases h

/-- Bytes that are an answer's are its bytes. -/
theorem encB_decB {k : Int} {r : List UInt8} {x : An} (hk0 : 0 ≤ k) (hk : k ≤ 17) (hr : r.length ≤ 1000000) (h : decB k r = some x) : ok20 k x ∧ x.err = 0 ∧ encB k x = r ∧ Wn x := by
  by_cases hz : k = 0
  · subst hz
    simp [decB] at h
  rcases (by omega : (k = 1 ∨ k = 3) ∨ k = 16 ∨ (k = 6 ∨ k = 7 ∨ k = 8 ∨ k = 12) ∨ k = 9 ∨ k = 10 ∨ k = 17 ∨ k = 11 ∨ k = 13 ∨ k = 14 ∨ (k = 2 ∨ k = 4 ∨ k = 5 ∨ k = 15)) with g | g | g | g | g | g | g | g | g | g
  · exact encB_h1 g hr h
  · exact encB_h2 g hr h
  · exact encB_fl g hr h
  · exact encB_n g hr h
  · exact encB_ds g hr h
  · exact encB_d1 g hr h
  · exact encB_c g hr h
  · exact encB_s g hr h
  · exact encB_d g hr h
  · exact encB_z g hr h


/-- Why it can't be encoded: 0, if it can. -/
def chk20 (k : Int) (x : An) : Int := if k < 0 ∨ 17 < k then 10 else if may20 k x then 0 else 1
/-- Why bytes are no answer: 0, if they are; the answer that they are. -/
def dE20 (k : Int) (b : List UInt8) : Int := if k < 0 ∨ 17 < k then 10 else if (dec20 k b).isSome then 0 else 3
def dC20 (k : Int) (b : List UInt8) : An := if k < 0 ∨ 17 < k then az else (dec20 k b).getD az

theorem dec20_cons (k : Int) (x : UInt8) (r : List UInt8) : dec20 k (x :: r) = if x.toNat ≠ 0 then (if r.length = 0 then some { az with err := (x.toNat : Int) } else none) else decB k r := rfl

theorem nil20_az {x : An} (h : nil20 x) : x = { az with err := x.err } := by
  obtain ⟨err, hs, is, n, ds, c0, c1, c2, c3, sum, d⟩ := x
  obtain ⟨h1, h2, h3, h4, ⟨h5, h6, h7, h8⟩, h9, h10⟩ := h
  dsimp only at *
  subst h1 h2 h3 h4 h5 h6 h7 h8 h9 h10
  rfl

theorem dec_enc20 {k : Int} {x : An} (hw : Wn x) (h : chk20 k x = 0) : dE20 k (enc20 k x) = 0 ∧ dC20 k (enc20 k x) = x := by
  unfold chk20 at h
  by_cases hk : k < 0 ∨ 17 < k
  · rw [if_pos hk] at h; cases h
  rw [if_neg hk] at h
  by_cases hm : may20 k x
  · have hd : dec20 k (enc20 k x) = some x := by
      rcases hm with ⟨h1, h2, h3, h4⟩ | ⟨h1, h2⟩
      · unfold enc20
        rw [if_pos h1, List.append_nil]
        have e : be 1 x.err.toNat = [UInt8.ofNat x.err.toNat] := by simp [be]
        have e2 : (UInt8.ofNat x.err.toNat).toNat = x.err.toNat := by simp; omega
        rw [e]
        rw [dec20_cons, e2, if_pos (by omega), if_pos (show ([] : List UInt8).length = 0 from rfl), Int.toNat_of_nonneg (by omega)]
        exact congrArg some (nil20_az h4).symm
      · unfold enc20
        rw [if_neg (by simpa using h1), h1]
        show dec20 k (0 :: encB k x) = _
        rw [dec20_cons, if_neg (by decide)]
        exact decB_encB (by omega) h2 hw h1
    unfold dE20 dC20
    rw [if_neg hk, if_neg hk, hd]
    exact ⟨rfl, rfl⟩
  · rw [if_neg hm] at h; cases h

theorem enc_dec20 {k : Int} {b : List UInt8} (hl : b.length ≤ 1000000) (h : dE20 k b = 0) : chk20 k (dC20 k b) = 0 ∧ enc20 k (dC20 k b) = b ∧ Wn (dC20 k b) := by
  unfold dE20 at h
  by_cases hk : k < 0 ∨ 17 < k
  · rw [if_pos hk] at h; cases h
  rw [if_neg hk] at h
  cases hd : dec20 k b with
  | none => rw [hd] at h; cases h
  | some x =>
    have e : dC20 k b = x := by unfold dC20; rw [if_neg hk, hd]; rfl
    rw [e]
    unfold chk20
    rw [if_neg hk]
    cases b with
    | nil => cases hd
    | cons y r =>
      rw [dec20_cons] at hd
      by_cases hy : y.toNat ≠ 0
      · rw [if_pos hy] at hd
        split at hd
        · next hr =>
          injection hd with hd
          have hr2 := List.eq_nil_of_length_eq_zero hr
          subst hr2 hd
          have hyl := y.toNat_lt
          refine ⟨if_pos (.inl ⟨by simpa using hy, by simp; omega, by simp; omega, rfl, rfl, rfl, rfl, ⟨rfl, rfl, rfl, rfl⟩, rfl, rfl⟩), ?_, ⟨fun z hz => by simp [az] at hz, fun z hz => by simp [az] at hz, by simp [az], by simp [az]⟩⟩
          unfold enc20
          rw [if_pos (by simpa using hy)]
          simp [be]
        · cases hd
      · rw [if_neg hy] at hd
        have h0 : y = 0 := UInt8.toNat_inj.1 (by simpa using hy)
        subst h0
        obtain ⟨h1, h2, h3, h4⟩ := encB_decB (by omega) (by omega) (by rw [List.length_cons] at hl; omega) hd
        refine ⟨if_pos (.inr ⟨h2, h1⟩), ?_, h4⟩
        unfold enc20
        rw [if_neg (by simpa using h2), h2, h3]
        rfl

end Go.Proofs.YtkopcfpghklbbaaDoor
