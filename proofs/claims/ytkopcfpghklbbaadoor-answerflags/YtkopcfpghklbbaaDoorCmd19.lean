/- Commands as bytes: plain mathematics. -/
import Derived.Test.YtkopcfpghklbbaaDoorSums
namespace Go.Proofs.YtkopcfpghklbbaaDoor
set_option linter.unusedVariables false

/-- A command. -/
structure Cm where
  code : Int
  a0 : Nat
  p0 : Nat
  a1 : Nat
  p1 : Nat
  s0 : Int
  s1 : Int
  w : Int
  d : List UInt8

/-- What a code's commands have. -/
structure Pt where
  h : Nat
  s : Nat
  w : Bool
  d : Bool

def pt (k : Int) : Option Pt :=
  if k = 1 ∨ k = 11 ∨ k = 13 ∨ k = 14 then some ⟨0, 0, false, false⟩
  else if k = 2 ∨ k = 4 ∨ k = 8 ∨ k = 12 ∨ k = 16 then some ⟨1, 0, false, false⟩
  else if k = 6 then some ⟨2, 0, false, false⟩
  else if k = 5 then some ⟨1, 0, true, false⟩
  else if k = 9 ∨ k = 10 ∨ k = 17 then some ⟨1, 2, false, false⟩
  else if k = 7 then some ⟨2, 2, false, false⟩
  else if k = 3 then some ⟨2, 3, true, false⟩
  else if k = 15 then some ⟨0, 0, false, true⟩
  else none

theorem pt_lt {k : Int} {p : Pt} (h : pt k = some p) : 1 ≤ k ∧ k ≤ 17 := by
  unfold pt at h
  repeat' split at h
  all_goals first | (exfalso; simp at h; done) | omega

theorem pt_is {k : Int} {p : Pt} (h : pt k = some p) : p.h ≤ 2 ∧ p.s ≤ 3 ∧ (p.s = 0 ∨ 1 ≤ p.h) ∧ (p.d = true ↔ k = 15) ∧ (p.d = true → p.h = 0 ∧ p.s = 0 ∧ p.w = false) := by
  unfold pt at h
  repeat' split at h
  all_goals first | (exfalso; simp at h; done) | (injection h with h; subst h; simp; try omega)

theorem pt_none {k : Int} : pt k = none ↔ k < 1 ∨ 17 < k := by
  unfold pt
  constructor
  · intro h
    repeat' split at h
    all_goals first | (exfalso; simp at h; done) | omega
  · intro h
    rw [if_neg (by omega), if_neg (by omega), if_neg (by omega), if_neg (by omega), if_neg (by omega), if_neg (by omega), if_neg (by omega), if_neg (by omega)]

/-- How many bytes there are behind the code, but for the data. -/
def szp (p : Pt) : Nat := p.h * 8 + (if 0 < p.s then p.h else 0) + (if p.w then 4 else 0)

def fit (p : Pt) (s0 s1 : Int) : Bool := p.s == 0 || ((p.h == 0 || (decide (0 ≤ s0) && decide (s0 < p.s))) && (decide (p.h < 2) || (decide (0 ≤ s1) && decide (s1 < p.s))))

def all (p : Pt) (c : Cm) : Bool :=
  (decide (0 < p.h) || (c.a0 == 0 && c.p0 == 0)) && ((decide (0 < p.h) && p.s != 0) || c.s0 == 0) && ((decide (1 < p.h) || (c.a1 == 0 && c.p1 == 0)) && ((decide (1 < p.h) && p.s != 0) || c.s1 == 0)) && ((p.w || c.w == 0) && (p.d || c.d.length == 0))

/-- Why a command can't be: 0, if it can. -/
def chk (c : Cm) : Int :=
  match pt c.code with
  | none => 10
  | some p => if fit p c.s0 c.s1 then (if all p c then (if c.d.length ≤ 67108863 then 0 else 2) else 1) else 3

def en1 (s : Nat) (x : Int) (a p : Nat) : List UInt8 := (if 0 < s then be 1 x.toNat else []) ++ (be 4 a ++ be 4 p)
def encH (p : Pt) (c : Cm) : List UInt8 := (if 0 < p.h then en1 p.s c.s0 c.a0 c.p0 else []) ++ (if 1 < p.h then en1 p.s c.s1 c.a1 c.p1 else [])
def encW (p : Pt) (c : Cm) : List UInt8 := if p.w then be 4 (c.w % 4294967296).toNat else []
def encp (p : Pt) (c : Cm) : List UInt8 := be 1 c.code.toNat ++ (encH p c ++ (encW p c ++ c.d))
def enc (c : Cm) : List UInt8 := match pt c.code with | none => [] | some p => encp p c

def s32 (n : Nat) : Int := if n < 2147483648 then (n : Int) else (n : Int) - 4294967296

structure Hn where
  s : Int
  a : Nat
  p : Nat

def hz : Hn := ⟨0, 0, 0⟩
def rdh (s : Nat) (r : List UInt8) : Hn := if 0 < s then ⟨(num (r.take 1) : Int), num ((r.drop 1).take 4), num ((r.drop 5).take 4)⟩ else ⟨0, num (r.take 4), num ((r.drop 4).take 4)⟩
def eh (s : Nat) : Nat := if 0 < s then 9 else 8
def rd0 (p : Pt) (r : List UInt8) : Hn := if 0 < p.h then rdh p.s r else hz
def rd1 (p : Pt) (r : List UInt8) : Hn := if 1 < p.h then rdh p.s (r.drop (eh p.s)) else hz
def rdw (p : Pt) (r : List UInt8) : Int := if p.w then s32 (num ((r.drop (p.h * eh p.s)).take 4)) else 0
def dcm (k : Nat) (p : Pt) (r : List UInt8) : Cm := ⟨k, (rd0 p r).a, (rd0 p r).p, (rd1 p r).a, (rd1 p r).p, (rd0 p r).s, (rd1 p r).s, rdw p r, r.drop (szp p)⟩

def holds (p : Pt) (n : Nat) : Bool := if p.d then decide (n ≤ 67108863) else n == szp p

def dE : List UInt8 → Int
  | [] => 10
  | k :: r => match pt k.toNat with
    | none => 10
    | some p => if holds p r.length then (if fit p (rd0 p r).s (rd1 p r).s then 0 else 3) else 11

def cz : Cm := ⟨0, 0, 0, 0, 0, 0, 0, 0, []⟩
def dC : List UInt8 → Cm
  | [] => cz
  | k :: r => match pt k.toNat with
    | none => cz
    | some p => if holds p r.length then (if fit p (rd0 p r).s (rd1 p r).s then dcm k.toNat p r else cz) else cz

theorem dE_some {k : UInt8} {r : List UInt8} {p : Pt} (hp : pt k.toNat = some p) : dE (k :: r) = if holds p r.length then (if fit p (rd0 p r).s (rd1 p r).s then 0 else 3) else 11 := by simp only [dE, hp]
theorem dE_none {k : UInt8} {r : List UInt8} (hp : pt k.toNat = none) : dE (k :: r) = 10 := by simp only [dE, hp]
theorem dC_some {k : UInt8} {r : List UInt8} {p : Pt} (hp : pt k.toNat = some p) : dC (k :: r) = if holds p r.length then (if fit p (rd0 p r).s (rd1 p r).s then dcm k.toNat p r else cz) else cz := by simp only [dC, hp]
theorem dC_none {k : UInt8} {r : List UInt8} (hp : pt k.toNat = none) : dC (k :: r) = cz := by simp only [dC, hp]

/-- What a command's numbers may be. -/
structure Wf (c : Cm) : Prop where
  a0 : c.a0 < 4294967296
  p0 : c.p0 < 4294967296
  a1 : c.a1 < 4294967296
  p1 : c.p1 < 4294967296
  w0 : -2147483648 ≤ c.w
  w1 : c.w ≤ 2147483647

theorem be_num : ∀ l : List UInt8, be l.length (num l) = l
  | [] => rfl
  | b :: l => by
    have h := num_lt l
    have hp : 0 < 256 ^ l.length := Nat.pow_pos (by omega)
    rw [List.length_cons, be, num_cons]
    congr 1
    · rw [Nat.add_comm, Nat.add_mul_div_right _ _ hp, Nat.div_eq_of_lt h, Nat.zero_add]
      simp
    · rw [(num_inj_be l.length (b.toNat * 256 ^ l.length + num l) (num l)).2 (by rw [Nat.mul_add_mod_self_right])]
      exact be_num l

theorem be_take4 (r : List UInt8) (n : Nat) (h : n ≤ r.length) : be n (num (r.take n)) = r.take n := by
  have e := be_num (r.take n)
  rwa [List.length_take, Nat.min_eq_left h] at e

theorem num_take_be (n v : Nat) (t : List UInt8) (h : v < 256 ^ n) : num ((be n v ++ t).take n) = v := by
  rw [List.take_append_of_le_length (by rw [be_length]; exact Nat.le_refl _), List.take_of_length_le (by rw [be_length]; exact Nat.le_refl _), num_be, Nat.mod_eq_of_lt h]

theorem drop_be (n v : Nat) (t : List UInt8) : (be n v ++ t).drop n = t := by
  rw [List.drop_append_of_le_length (by rw [be_length]; exact Nat.le_refl _), List.drop_of_length_le (by rw [be_length]; exact Nat.le_refl _), List.nil_append]

theorem num_take_lt (r : List UInt8) (n : Nat) : num (r.take n) < 256 ^ n :=
  Nat.lt_of_lt_of_le (num_lt _) (Nat.pow_le_pow_right (by omega) (by rw [List.length_take]; omega))

theorem en1_len (s : Nat) (x : Int) (a p : Nat) : (en1 s x a p).length = eh s := by
  unfold en1 eh
  split <;> simp [be_length]

/-- What was written is read. -/
theorem rdh_en {s : Nat} {x : Int} {a p : Nat} (t : List UInt8) (hx : 0 < s → 0 ≤ x ∧ x < 256) (hx0 : s = 0 → x = 0) (ha : a < 4294967296) (hp : p < 4294967296) : rdh s (en1 s x a p ++ t) = ⟨x, a, p⟩ := by
  unfold rdh en1
  by_cases h : 0 < s
  · rw [if_pos h, if_pos h]
    have := hx h
    simp only [List.append_assoc]
    rw [num_take_be 1 x.toNat _ (by omega), drop_be, num_take_be 4 a _ (by omega), show (5 : Nat) = 1 + 4 from rfl, ← List.drop_drop, drop_be, drop_be, num_take_be 4 p _ (by omega), Int.toNat_of_nonneg this.1]
  · rw [if_neg h, if_neg h, hx0 (by omega)]
    simp only [List.nil_append, List.append_assoc]
    rw [num_take_be 4 a _ (by omega), drop_be, num_take_be 4 p _ (by omega)]

theorem take_drop4 (r : List UInt8) (i j : Nat) : (r.drop i).take j ++ r.drop (i + j) = r.drop i := by
  rw [← List.drop_drop, List.take_append_drop]

/-- What is read is what was written. -/
theorem en_rdh (s : Nat) (r : List UInt8) (h : eh s ≤ r.length) : en1 s (rdh s r).s (rdh s r).a (rdh s r).p ++ r.drop (eh s) = r := by
  unfold rdh en1 eh at *
  by_cases c : 0 < s
  · simp only [if_pos c] at *
    rw [Int.toNat_natCast, be_take4 r 1 (by omega), be_take4 (r.drop 1) 4 (by rw [List.length_drop]; omega), be_take4 (r.drop 5) 4 (by rw [List.length_drop]; omega)]
    simp only [List.append_assoc]
    rw [take_drop4 r 5 4, take_drop4 r 1 4]
    exact List.take_append_drop 1 r
  · simp only [if_neg c] at *
    rw [be_take4 r 4 (by omega), be_take4 (r.drop 4) 4 (by rw [List.length_drop]; omega)]
    simp only [List.append_assoc, List.nil_append]
    rw [take_drop4 r 4 4]
    exact List.take_append_drop 4 r

theorem szp_eq (p : Pt) : szp p = p.h * eh p.s + (if p.w then 4 else 0) := by
  unfold szp eh
  split <;> omega

theorem encH_len {p : Pt} {c : Cm} (h : p.h ≤ 2) : (encH p c).length = p.h * eh p.s := by
  unfold encH
  rw [List.length_append]
  rcases (by omega : p.h = 0 ∨ p.h = 1 ∨ p.h = 2) with e | e | e
  · rw [e]; simp
  · rw [e]; simp [en1_len]
  · rw [e]; simp [en1_len]; omega

theorem encW_len (p : Pt) (c : Cm) : (encW p c).length = if p.w then 4 else 0 := by
  unfold encW
  split <;> simp [be_length]

theorem encp_len {p : Pt} {c : Cm} (h : p.h ≤ 2) : (encp p c).length = 1 + (szp p + c.d.length) := by
  unfold encp
  rw [List.length_append, List.length_append, List.length_append, encH_len h, encW_len, be_length, szp_eq]
  omega

theorem encp_cons {p : Pt} {c : Cm} (h1 : 1 ≤ c.code) (h2 : c.code ≤ 17) : ∃ k : UInt8, (k.toNat : Int) = c.code ∧ encp p c = k :: (encH p c ++ (encW p c ++ c.d)) := by
  refine ⟨UInt8.ofNat c.code.toNat, ?_, ?_⟩
  · simp
    omega
  · simp [encp, be]

theorem s32_of {w : Int} (h0 : -2147483648 ≤ w) (h1 : w ≤ 2147483647) : s32 (w % 4294967296).toNat = w := by
  unfold s32
  split <;> omega

theorem s32_bd {n : Nat} (h : n < 4294967296) : -2147483648 ≤ s32 n ∧ s32 n ≤ 2147483647 := by
  unfold s32
  split <;> omega

theorem s32_to {n : Nat} (h : n < 4294967296) : (s32 n % 4294967296).toNat = n := by
  unfold s32
  split <;> omega

theorem fit_iff {p : Pt} {s0 s1 : Int} : fit p s0 s1 = true ↔ (p.s = 0 ∨ ((p.h = 0 ∨ (0 ≤ s0 ∧ s0 < p.s)) ∧ (p.h < 2 ∨ (0 ≤ s1 ∧ s1 < p.s)))) := by
  unfold fit
  simp

theorem all_iff {p : Pt} {c : Cm} : all p c = true ↔ (0 < p.h ∨ (c.a0 = 0 ∧ c.p0 = 0)) ∧ ((0 < p.h ∧ p.s ≠ 0) ∨ c.s0 = 0) ∧ (1 < p.h ∨ (c.a1 = 0 ∧ c.p1 = 0)) ∧ ((1 < p.h ∧ p.s ≠ 0) ∨ c.s1 = 0) ∧ (p.w = true ∨ c.w = 0) ∧ (p.d = true ∨ c.d = []) := by
  unfold all
  simp [and_assoc]

theorem chk_zero {c : Cm} : chk c = 0 ↔ ∃ p, pt c.code = some p ∧ fit p c.s0 c.s1 = true ∧ all p c = true ∧ c.d.length ≤ 67108863 := by
  unfold chk
  cases h : pt c.code with
  | none => simp
  | some p =>
    simp only [Option.some.injEq, exists_eq_left']
    by_cases h1 : fit p c.s0 c.s1 = true
    · by_cases h2 : all p c = true
      · by_cases h3 : c.d.length ≤ 67108863
        · simp [h1, h2, h3]
        · simp [h1, h2, h3]
      · simp [h1, h2]
    · simp [h1]

/-- Reading behind what was written. -/
theorem dcm_encp {p : Pt} {c : Cm} (hp : pt c.code = some p) (hf : fit p c.s0 c.s1 = true) (ha : all p c = true) (hw : Wf c) : dcm c.code.toNat p (encH p c ++ (encW p c ++ c.d)) = c := by
  obtain ⟨i1, i2, i3, i4, i5⟩ := pt_is hp
  obtain ⟨b1, b2⟩ := pt_lt hp
  rw [all_iff] at ha
  rw [fit_iff] at hf
  obtain ⟨a1, a2, a3, a4, a5, a6⟩ := ha
  have e0 : rd0 p (encH p c ++ (encW p c ++ c.d)) = ⟨c.s0, c.a0, c.p0⟩ := by
    unfold rd0 encH
    by_cases g : 0 < p.h
    · simp only [if_pos g, List.append_assoc]
      exact rdh_en _ (fun q => by rcases hf with h | h <;> omega) (fun q => by omega) hw.a0 hw.p0
    · simp only [if_neg g]
      have h1 : c.a0 = 0 := by omega
      have h2 : c.p0 = 0 := by omega
      have h3 : c.s0 = 0 := by omega
      rw [h1, h2, h3]
      rfl
  have e1 : rd1 p (encH p c ++ (encW p c ++ c.d)) = ⟨c.s1, c.a1, c.p1⟩ := by
    unfold rd1 encH
    by_cases g : 1 < p.h
    · simp only [if_pos g, if_pos (show 0 < p.h by omega), List.append_assoc]
      rw [List.drop_append_of_le_length (by rw [en1_len]; exact Nat.le_refl _), List.drop_of_length_le (by rw [en1_len]; exact Nat.le_refl _), List.nil_append]
      exact rdh_en _ (fun q => by rcases hf with h | h <;> omega) (fun q => by omega) hw.a1 hw.p1
    · simp only [if_neg g]
      have h1 : c.a1 = 0 := by omega
      have h2 : c.p1 = 0 := by omega
      have h3 : c.s1 = 0 := by omega
      rw [h1, h2, h3]
      rfl
  have e2 : rdw p (encH p c ++ (encW p c ++ c.d)) = c.w := by
    unfold rdw
    rw [List.drop_append_of_le_length (by rw [encH_len i1]; exact Nat.le_refl _), List.drop_of_length_le (by rw [encH_len i1]; exact Nat.le_refl _), List.nil_append]
    by_cases g : p.w = true
    · unfold encW
      rw [if_pos g, if_pos g, num_take_be 4 _ _ (by have := hw.w0; omega), s32_of hw.w0 hw.w1]
    · rw [if_neg g]
      rcases a5 with h | h
      · exact absurd h g
      · exact h.symm
  have e3 : (encH p c ++ (encW p c ++ c.d)).drop (szp p) = c.d := by
    rw [← List.append_assoc, List.drop_append_of_le_length (by rw [List.length_append, encH_len i1, encW_len, szp_eq]; exact Nat.le_refl _), List.drop_of_length_le (by rw [List.length_append, encH_len i1, encW_len, szp_eq]; exact Nat.le_refl _), List.nil_append]
  unfold dcm
  rw [e0, e1, e2, e3]
  cases c
  simp only [Cm.mk.injEq, and_self, and_true]
  dsimp only at b1
  omega

theorem holds_of {p : Pt} {c : Cm} (h2 : p.h ≤ 2) (ha : all p c = true) (hd : c.d.length ≤ 67108863) (hp : p.d = true → szp p = 0) : holds p (encH p c ++ (encW p c ++ c.d)).length = true := by
  rw [all_iff] at ha
  rw [List.length_append, List.length_append, encH_len h2, encW_len]
  have := szp_eq p
  unfold holds
  by_cases g : p.d = true
  · have := hp g
    rw [if_pos g]
    simp
    omega
  · rw [if_neg g]
    rcases ha.2.2.2.2.2 with h | h
    · exact absurd h g
    · rw [h]
      simp
      omega

theorem szp_d {k : Int} {p : Pt} (h : pt k = some p) (hd : p.d = true) : szp p = 0 := by
  obtain ⟨h1, h2, h3⟩ := (pt_is h).2.2.2.2 hd
  unfold szp
  rw [h1, h2, h3]
  rfl

/-- A command is its bytes' command. -/
theorem dec_enc {c : Cm} (hw : Wf c) (hc : chk c = 0) : dE (enc c) = 0 ∧ dC (enc c) = c := by
  obtain ⟨p, hp, hf, ha, hd⟩ := chk_zero.1 hc
  obtain ⟨b1, b2⟩ := pt_lt hp
  obtain ⟨k, hk, e⟩ := encp_cons (p := p) b1 b2
  have hr := dcm_encp hp hf ha hw
  have hh := holds_of (pt_is hp).1 ha hd (szp_d hp)
  have hkn : k.toNat = c.code.toNat := by omega
  have f1 : (rd0 p (encH p c ++ (encW p c ++ c.d))).s = c.s0 := congrArg Cm.s0 hr
  have f2 : (rd1 p (encH p c ++ (encW p c ++ c.d))).s = c.s1 := congrArg Cm.s1 hr
  unfold enc
  rw [hp]
  simp only [e, dE, dC, hk, hp, hh, if_true, f1, f2, hf]
  rw [hkn]
  exact ⟨trivial, hr⟩

theorem rdh_s {s : Nat} {r : List UInt8} : 0 ≤ (rdh s r).s ∧ (s = 0 → (rdh s r).s = 0) := by
  unfold rdh
  split
  · exact ⟨by simp, fun e => by omega⟩
  · exact ⟨Int.le_refl _, fun _ => rfl⟩

theorem rdh_lt {s : Nat} {r : List UInt8} : (rdh s r).a < 4294967296 ∧ (rdh s r).p < 4294967296 := by
  unfold rdh
  split
  · exact ⟨num_take_lt _ 4, num_take_lt _ 4⟩
  · exact ⟨num_take_lt _ 4, num_take_lt _ 4⟩

theorem dcm_wf (k : Nat) (p : Pt) (r : List UInt8) : Wf (dcm k p r) := by
  have g0 : (rd0 p r).a < 4294967296 ∧ (rd0 p r).p < 4294967296 := by
    unfold rd0
    split
    · exact rdh_lt
    · exact ⟨by decide, by decide⟩
  have g1 : (rd1 p r).a < 4294967296 ∧ (rd1 p r).p < 4294967296 := by
    unfold rd1
    split
    · exact rdh_lt
    · exact ⟨by decide, by decide⟩
  have g2 : -2147483648 ≤ rdw p r ∧ rdw p r ≤ 2147483647 := by
    unfold rdw
    split
    · exact s32_bd (num_take_lt _ 4)
    · exact ⟨by decide, by decide⟩
  exact ⟨g0.1, g0.2, g1.1, g1.2, g2.1, g2.2⟩

theorem drop_len_le {r : List UInt8} {n : Nat} (h : r.length = n) : r.drop n = [] := List.drop_of_length_le (by omega)

/-- Bytes that are a command's are its bytes. -/
theorem enc_dcm {k : UInt8} {p : Pt} {r : List UInt8} (hp : pt k.toNat = some p) (hh : holds p r.length = true) (hf : fit p (rd0 p r).s (rd1 p r).s = true) : chk (dcm k.toNat p r) = 0 ∧ enc (dcm k.toNat p r) = k :: r := by
  obtain ⟨i1, i2, i3, i4, i5⟩ := pt_is hp
  obtain ⟨b1, b2⟩ := pt_lt hp
  have hl : p.d = true ∧ r.length ≤ 67108863 ∨ ¬ p.d = true ∧ r.length = szp p := by
    unfold holds at hh
    by_cases g : p.d = true
    · rw [if_pos g] at hh
      exact .inl ⟨g, by simpa using hh⟩
    · rw [if_neg g] at hh
      exact .inr ⟨g, by simpa using hh⟩
  have hsz : szp p ≤ r.length := by
    rcases hl with ⟨g, _⟩ | ⟨_, h⟩
    · rw [szp_d hp g]; exact Nat.zero_le _
    · omega
  have hs := szp_eq p
  have ha : all p (dcm k.toNat p r) = true := by
    rw [all_iff]
    refine ⟨?_, ?_, ?_, ?_, ?_, ?_⟩
    · by_cases g : 0 < p.h
      · exact .inl g
      · right
        simp only [dcm, rd0, if_neg g]
        exact ⟨rfl, rfl⟩
    · by_cases g : 0 < p.h ∧ p.s ≠ 0
      · exact .inl g
      · right
        show (rd0 p r).s = 0
        unfold rd0
        split
        · exact rdh_s.2 (by omega)
        · rfl
    · by_cases g : 1 < p.h
      · exact .inl g
      · right
        simp only [dcm, rd1, if_neg g]
        exact ⟨rfl, rfl⟩
    · by_cases g : 1 < p.h ∧ p.s ≠ 0
      · exact .inl g
      · right
        show (rd1 p r).s = 0
        unfold rd1
        split
        · exact rdh_s.2 (by omega)
        · rfl
    · by_cases g : p.w = true
      · exact .inl g
      · right
        show rdw p r = 0
        unfold rdw
        rw [if_neg g]
    · rcases hl with ⟨g, _⟩ | ⟨_, h⟩
      · exact .inl g
      · exact .inr (drop_len_le h)
  have hd : (dcm k.toNat p r).d.length ≤ 67108863 := by
    show (r.drop (szp p)).length ≤ _
    rw [List.length_drop]
    rcases hl with ⟨_, h⟩ | ⟨_, h⟩ <;> omega
  refine ⟨chk_zero.2 ⟨p, hp, hf, ha, hd⟩, ?_⟩
  have hH : encH p (dcm k.toNat p r) ++ r.drop (p.h * eh p.s) = r := by
    unfold encH
    show (if 0 < p.h then en1 p.s (rd0 p r).s (rd0 p r).a (rd0 p r).p else []) ++ (if 1 < p.h then en1 p.s (rd1 p r).s (rd1 p r).a (rd1 p r).p else []) ++ r.drop (p.h * eh p.s) = r
    unfold rd0 rd1
    rcases (by omega : p.h = 0 ∨ p.h = 1 ∨ p.h = 2) with e | e | e
    · rw [e]; simp
    · rw [e] at hs ⊢
      simp only [Nat.lt_irrefl, if_false, if_true, Nat.one_mul, List.append_nil, Nat.zero_lt_one]
      exact en_rdh p.s r (by omega)
    · rw [e] at hs ⊢
      simp only [if_true, show (0 : Nat) < 2 by omega, show (1 : Nat) < 2 by omega, List.append_assoc]
      rw [show 2 * eh p.s = eh p.s + eh p.s by omega, ← List.drop_drop, en_rdh p.s (r.drop (eh p.s)) (by rw [List.length_drop]; omega)]
      exact en_rdh p.s r (by omega)
  have hW : encW p (dcm k.toNat p r) ++ r.drop (szp p) = r.drop (p.h * eh p.s) := by
    unfold encW
    show (if p.w then be 4 (rdw p r % 4294967296).toNat else []) ++ r.drop (szp p) = _
    unfold rdw
    by_cases g : p.w = true
    · rw [if_pos g] at hs
      rw [if_pos g, if_pos g, s32_to (num_take_lt _ 4), be_take4 _ 4 (by rw [List.length_drop]; omega), hs, take_drop4]
    · rw [if_neg g] at hs
      rw [if_neg g, hs]
      simp
  unfold enc
  have hq : pt (dcm k.toNat p r).code = some p := hp
  rw [hq]
  show be 1 (k.toNat : Int).toNat ++ (encH p (dcm k.toNat p r) ++ (encW p (dcm k.toNat p r) ++ r.drop (szp p))) = k :: r
  rw [hW, hH]
  simp [be]

theorem enc_dec {b : List UInt8} (h : dE b = 0) : chk (dC b) = 0 ∧ enc (dC b) = b ∧ Wf (dC b) := by
  cases b with
  | nil => simp [dE] at h
  | cons k r =>
    cases hp : pt k.toNat with
    | none => rw [dE_none hp] at h; simp at h
    | some p =>
      rw [dE_some hp] at h
      rw [dC_some hp]
      by_cases hh : holds p r.length = true
      · rw [if_pos hh] at h ⊢
        by_cases hf : fit p (rd0 p r).s (rd1 p r).s = true
        · rw [if_pos hf]
          have := enc_dcm hp hh hf
          exact ⟨this.1, this.2, dcm_wf _ _ _⟩
        · rw [if_neg hf] at h
          simp at h
      · rw [if_neg hh] at h
        simp at h

theorem dE_is (b : List UInt8) : dE b = 0 ∨ (dE b = 10 ∨ dE b = 11 ∨ dE b = 3) ∧ dC b = cz := by
  cases b with
  | nil => exact .inr ⟨.inl rfl, rfl⟩
  | cons k r =>
    cases hp : pt k.toNat with
    | none => exact .inr ⟨.inl (dE_none hp), dC_none hp⟩
    | some p =>
      rw [dE_some hp, dC_some hp]
      by_cases hh : holds p r.length = true
      · rw [if_pos hh, if_pos hh]
        by_cases hf : fit p (rd0 p r).s (rd1 p r).s = true
        · rw [if_pos hf]; exact .inl rfl
        · rw [if_neg hf, if_neg hf]; exact .inr ⟨.inr (.inr rfl), rfl⟩
      · rw [if_neg hh, if_neg hh]; exact .inr ⟨.inr (.inl rfl), rfl⟩

theorem chk_is (c : Cm) : chk c = 0 ∨ chk c = 10 ∨ chk c = 3 ∨ chk c = 1 ∨ chk c = 2 := by
  unfold chk
  split
  · exact .inr (.inl rfl)
  · split
    · split
      · split
        · exact .inl rfl
        · exact .inr (.inr (.inr (.inr rfl)))
      · exact .inr (.inr (.inr (.inl rfl)))
    · exact .inr (.inr (.inl rfl))

/-- One byte more, or less, is no command, but of Load. -/
theorem sizes {c : Cm} (hc : chk c = 0) (hd : c.d.length ≤ 5000) (x : UInt8) : (c.code = 15 → dE (enc c ++ [x]) = 0 ∧ ((enc c).length = 1 ∨ dE ((enc c).take ((enc c).length - 1)) = 0)) ∧ (¬ c.code = 15 → dE (enc c ++ [x]) = 11 ∧ (dE ((enc c).take ((enc c).length - 1)) = 11 ∨ (enc c).length = 1 ∧ dE ((enc c).take ((enc c).length - 1)) = 10)) := by
  obtain ⟨p, hp, hf, ha, _⟩ := chk_zero.1 hc
  obtain ⟨i1, i2, i3, i4, i5⟩ := pt_is hp
  obtain ⟨b1, b2⟩ := pt_lt hp
  obtain ⟨k, hk, e⟩ := encp_cons (p := p) b1 b2
  have hlen := encp_len (c := c) i1
  unfold enc
  rw [hp]
  dsimp only
  have hl2 : (encH p c ++ (encW p c ++ c.d)).length = szp p + c.d.length := by
    rw [e, List.length_cons] at hlen
    omega
  generalize hr : encH p c ++ (encW p c ++ c.d) = r at e hl2
  rw [e]
  refine ⟨fun h => ?_, fun h => ?_⟩
  · have g := i4.2 h
    obtain ⟨g1, g2, g3⟩ := i5 g
    have z := szp_d hp g
    have fa : ∀ s0 s1, fit p s0 s1 = true := fun s0 s1 => fit_iff.2 (.inl g2)
    have ho : ∀ n, n ≤ 67108863 → holds p n = true := fun n hn => by unfold holds; rw [if_pos g]; simpa using hn
    refine ⟨?_, ?_⟩
    · simp only [List.cons_append, dE, hk, hp, fa, if_true]
      rw [if_pos (ho _ (by rw [List.length_append, List.length_singleton]; omega))]
    · by_cases h1 : r = []
      · left; rw [h1]; rfl
      · right
        have : 1 ≤ r.length := List.length_pos_iff.2 h1
        rw [List.length_cons, show r.length + 1 - 1 = (r.length - 1) + 1 by omega, List.take_succ_cons]
        simp only [dE, hk, hp, fa, if_true]
        rw [if_pos (ho _ (by rw [List.length_take]; omega))]
  · have g : ¬ p.d = true := fun q => h (i4.1 q)
    have dn : c.d = [] := by
      rcases (all_iff.1 ha).2.2.2.2.2 with q | q
      · exact absurd q g
      · exact q
    rw [dn, List.length_nil] at hl2
    have ho : ∀ n, n ≠ szp p → ¬ holds p n = true := fun n hn => by unfold holds; rw [if_neg g]; simpa using hn
    refine ⟨?_, ?_⟩
    · simp only [List.cons_append, dE, hk, hp]
      rw [if_neg (ho _ (by rw [List.length_append, List.length_singleton]; omega))]
    · by_cases h1 : r = []
      · right; rw [h1]; exact ⟨rfl, rfl⟩
      · left
        have : 1 ≤ r.length := List.length_pos_iff.2 h1
        rw [List.length_cons, show r.length + 1 - 1 = (r.length - 1) + 1 by omega, List.take_succ_cons]
        simp only [dE, hk, hp]
        rw [if_neg (ho _ (by rw [List.length_take]; omega))]

theorem codes_err {k : UInt8} {r : List UInt8} (h : ¬ dE (k :: r) = 0) : (dE (k :: r) = 10 ↔ (k.toNat < 1 ∨ 17 < k.toNat)) ∧ dC (k :: r) = cz := by
  refine ⟨?_, ?_⟩
  · cases hp : pt k.toNat with
    | none =>
      have := pt_none.1 hp
      rw [dE_none hp]
      constructor
      · intro _; omega
      · intro _; rfl
    | some p =>
      have := pt_lt hp
      rw [dE_some hp]
      constructor
      · intro e
        exfalso
        revert e
        repeat' split
        all_goals decide
      · intro e
        omega
  · rcases dE_is (k :: r) with g | g
    · exact absurd g h
    · exact g.2

theorem codes_ok {k : UInt8} {r : List UInt8} (h : dE (k :: r) = 0) : (dC (k :: r)).code = (k.toNat : Int) := by
  cases hp : pt k.toNat with
  | none => rw [dE_none hp] at h; simp at h
  | some p =>
    rw [dE_some hp] at h
    rw [dC_some hp]
    by_cases hh : holds p r.length = true
    · rw [if_pos hh] at h ⊢
      by_cases hf : fit p (rd0 p r).s (rd1 p r).s = true
      · rw [if_pos hf]
        rfl
      · rw [if_neg hf] at h
        simp at h
    · rw [if_neg hh] at h
      simp at h

end Go.Proofs.YtkopcfpghklbbaaDoor
