/- Lists of truths by their places. Lists of places: which are held, live, worn; the lowest free one. Plain facts, of no program. What Claim, Free, Has, Size and Next of a Slots answer. An Arena in memory; what a call of it may have turned. Which places may be: odd, mayBe, and the library's IndexFunc and ContainsFunc over it; slices of places that are read. -/
import Derived.Test.YtboafgimjadboaaGreatDoorArBslots
import Derived.Test.YtboafgimjadboaaGreatDoorBerr
import Derived.Laws.OwnMore
namespace Go.Proofs.YtboafgimjadboaaGreatDoor.Ar
open Go.RowKit

/-- What the calls read of the program's variables. -/
def Env (w : World) : Prop := Handle w ∧ Tab w

theorem Env.lt {w : World} (h : Env w) : 2 ≤ w.heap.size := by
  have := World.block_lt_of_cell? w _ (h.2 0 (by decide))
  exact this

theorem Env.of {w w' : World} {lo hi : Nat} (h : Env w) (hw : Within lo hi w w') (ho : 2 ≤ lo) : Env w' := ⟨hw.cell h.1 (Or.inl (by simp; omega)), h.2.of hw (by omega)⟩

theorem Env.below {w w' : World} (h : Env w) (hw : Below w.heap.size w w') : Env w' := h.of (Within.ofBelow hw w.heap.size w.heap.size) h.lt

/-- The list of K truths. -/
def L (K : Nat) (p : Nat → Bool) : List Bool := (List.range K).map p

@[simp] theorem L_length (K : Nat) (p : Nat → Bool) : (L K p).length = K := by simp [L]

theorem L_get (K : Nat) (p : Nat → Bool) (j : Nat) : (L K p)[j]? = if j < K then some (p j) else none := by
  unfold L
  rw [List.getElem?_map]
  by_cases h : j < K
  · simp [h]
  · simp [h]

end Go.Proofs.YtboafgimjadboaaGreatDoor.Ar

namespace Go.Proofs.YtboafgimjadboaaGreatDoor.Ar
open Go.RowKit

/-- A place that may be: its age, and what it is. -/
def okP (p : Int × Int) : Prop := 0 ≤ p.1 ∧ p.1 < 4294967296 ∧ ((p.2 = 0 ∧ p.1 ≠ 4294967295) ∨ (p.2 = 1 ∧ p.1 ≠ 0) ∨ (p.2 = 2 ∧ p.1 = 4294967295))

instance (p : Int × Int) : Decidable (okP p) := by unfold okP; infer_instance

/-- These may be the first places of n. -/
structure Fair (n : Nat) (ps : List (Int × Int)) : Prop where
  le : ps.length ≤ n
  ok : ∀ (i : Nat) p, ps[i]? = some p → okP p
  last : ∀ (i : Nat) p, ps[i]? = some p → i + 1 = ps.length → p.1 ≠ 0

/-- Is the place held? -/
def heldB (ps : List (Int × Int)) (i : Nat) : Bool := match ps[i]? with | some p => decide (p.2 ≠ 0) | none => false

def held (n : Nat) (ps : List (Int × Int)) : List Bool := ps.map (fun p => decide (p.2 ≠ 0)) ++ List.replicate (n - ps.length) false

theorem held_length {n : Nat} {ps : List (Int × Int)} (h : ps.length ≤ n) : (held n ps).length = n := by simp [held]; omega

theorem held_get {n : Nat} {ps : List (Int × Int)} (h : ps.length ≤ n) (i : Nat) : (held n ps)[i]? = if i < n then some (heldB ps i) else none := by
  unfold held heldB
  rcases Nat.lt_or_ge i ps.length with hi | hi
  · rw [List.getElem?_append_left (by simpa using hi), List.getElem?_map, List.getElem?_eq_getElem hi]
    simp; omega
  · rw [List.getElem?_append_right (by simpa using hi), List.getElem?_replicate, List.getElem?_eq_none hi]
    simp
    by_cases hn : i < n
    · rw [if_pos (by omega), if_pos hn]
    · rw [if_neg (by omega), if_neg hn]

theorem held_is {n : Nat} {ps : List (Int × Int)} (h : ps.length ≤ n) (i : Nat) (b : Bool) : (held n ps)[i]? = some b ↔ i < n ∧ heldB ps i = b := by
  rw [held_get h]
  by_cases hi : i < n <;> simp [hi]

theorem held_nil (n : Nat) : held n [] = List.replicate n false := by simp [held]

theorem held_push {n : Nat} {ps : List (Int × Int)} (p : Int × Int) (hn : ps.length < n) : held n (ps ++ [p]) = (held n ps).set ps.length (decide (p.2 ≠ 0)) := by
  unfold held
  obtain ⟨d, hd⟩ : ∃ d, n = ps.length + (d + 1) := ⟨n - ps.length - 1, by omega⟩
  subst hd
  rw [List.set_append_right _ _ (by simp)]
  simp [List.replicate_succ]
  rw [show ps.length + (d + 1) - (ps.length + 1) = d by omega]

/-- How many are live; how many worn. -/
def liveN (ps : List (Int × Int)) : Nat := ps.countP (fun p => decide (p.2 = 1))
def wornN (ps : List (Int × Int)) : Nat := ps.countP (fun p => decide (p.2 = 2))
def heldN (ps : List (Int × Int)) : Nat := ps.countP (fun p => decide (p.2 ≠ 0))

theorem held_count (n : Nat) (ps : List (Int × Int)) : (held n ps).count true = heldN ps := by
  unfold held heldN
  rw [List.count_append, List.count_replicate, List.count, List.countP_map]
  simp
  congr 1

theorem heldN_split : ∀ (ps : List (Int × Int)), (∀ p ∈ ps, okP p) → heldN ps = liveN ps + wornN ps
  | [], _ => rfl
  | p :: ps, h => by
    have ih := heldN_split ps (fun q hq => h q (List.mem_cons_of_mem _ hq))
    have hp := h p List.mem_cons_self
    unfold heldN liveN wornN at *
    simp only [List.countP_cons, ih]
    obtain ⟨_, _, (⟨e, _⟩ | ⟨e, _⟩ | ⟨e, _⟩)⟩ := hp <;> simp [e] <;> omega

theorem Fair.mem {n : Nat} {ps : List (Int × Int)} (h : Fair n ps) : ∀ p ∈ ps, okP p := fun p hp => by
  obtain ⟨i, hi⟩ := List.mem_iff_getElem?.1 hp
  exact h.ok i p hi

theorem Fair.split {n : Nat} {ps : List (Int × Int)} (h : Fair n ps) : heldN ps = liveN ps + wornN ps := heldN_split ps h.mem

theorem heldN_le (ps : List (Int × Int)) : heldN ps ≤ ps.length := List.countP_le_length
theorem wornN_le (ps : List (Int × Int)) : wornN ps ≤ ps.length := List.countP_le_length
theorem liveN_le (ps : List (Int × Int)) : liveN ps ≤ ps.length := List.countP_le_length

theorem wornN_push (ps : List (Int × Int)) (p : Int × Int) : wornN (ps ++ [p]) = wornN ps + (if p.2 = 2 then 1 else 0) := by
  unfold wornN
  rw [List.countP_append]
  simp [List.countP_cons]

/-- What a place is: one that was never given is as at first. -/
def atP (ps : List (Int × Int)) (i : Nat) : Int × Int := (ps[i]?).getD (0, 0)

theorem atP_some {ps : List (Int × Int)} {i : Nat} {p : Int × Int} (h : ps[i]? = some p) : atP ps i = p := by simp [atP, h]
theorem atP_none {ps : List (Int × Int)} {i : Nat} (h : ps.length ≤ i) : atP ps i = (0, 0) := by simp [atP, List.getElem?_eq_none h]

/-- The list with a place told. -/
def putP (ps : List (Int × Int)) (i : Nat) (p : Int × Int) : List (Int × Int) := if i = ps.length then ps ++ [p] else ps.set i p

theorem Fair.nil (n : Nat) : Fair n [] := ⟨by simp, by simp, by simp⟩

/-- The live places below f. -/
def lvB (ps : List (Int × Int)) (i : Nat) : Bool := decide ((atP ps i).2 = 1)
def lv (ps : List (Int × Int)) (f : Nat) : List Nat := (List.range f).filter (lvB ps)
def lives (ps : List (Int × Int)) : List Nat := lv ps ps.length

theorem lv_succ (ps : List (Int × Int)) (f : Nat) : lv ps (f + 1) = lv ps f ++ (if (atP ps f).2 = 1 then [f] else []) := by
  unfold lv
  rw [List.range_succ, List.filter_append]
  by_cases h : (atP ps f).2 = 1 <;> simp [lvB, h]

theorem lv_to (ps : List (Int × Int)) (f : Nat) : ∀ d, (∀ y, f ≤ y → y < f + d → ¬ (atP ps y).2 = 1) → lv ps (f + d) = lv ps f
  | 0, _ => rfl
  | d + 1, h => by
    rw [← Nat.add_assoc, lv_succ, lv_to ps f d (fun y h1 h2 => h y h1 (by omega)), if_neg (h (f + d) (by omega) (by omega))]
    simp

theorem lv_skip (ps : List (Int × Int)) (f g : Nat) (hfg : f ≤ g) (h : ∀ y, f ≤ y → y < g → ¬ (atP ps y).2 = 1) : lv ps g = lv ps f := by
  rw [show g = f + (g - f) from by omega]
  exact lv_to ps f _ (fun y h1 h2 => h y h1 (by omega))

theorem lv_le (ps : List (Int × Int)) (f : Nat) : (lv ps f).length ≤ f := by
  have := List.length_filter_le (lvB ps) (List.range f)
  simpa [lv] using this

theorem lv_count (ps : List (Int × Int)) : ∀ f, (lv ps f).length = liveN (ps.take f)
  | 0 => by simp [lv, liveN]
  | f + 1 => by
    rw [lv_succ, List.length_append, lv_count ps f, List.take_add_one]
    unfold liveN
    rw [List.countP_append]
    congr 1
    unfold atP
    cases h : ps[f]? with
    | none => simp
    | some p => by_cases h1 : p.2 = 1 <;> simp [h1]

theorem lives_count (ps : List (Int × Int)) : (lives ps).length = liveN ps := by
  unfold lives; rw [lv_count, List.take_length]

theorem lv_mem (ps : List (Int × Int)) (f x : Nat) : x ∈ lv ps f ↔ x < f ∧ (atP ps x).2 = 1 := by
  simp [lv, lvB]

theorem live_lt {ps : List (Int × Int)} {x : Nat} (h : (atP ps x).2 = 1) : x < ps.length := by
  rcases Nat.lt_or_ge x ps.length with h1 | h1
  · exact h1
  · rw [atP_none h1] at h; simp at h

theorem live_get {ps : List (Int × Int)} {x : Nat} (h : (atP ps x).2 = 1) : ps[x]? = some (atP ps x) := by
  have := live_lt h
  simp [atP, List.getElem?_eq_getElem this]

/-- The lowest free place, or how many there are. -/
def lowP : List (Int × Int) → Nat
  | [] => 0
  | p :: ps => if p.2 = 0 then 0 else lowP ps + 1

end Go.Proofs.YtboafgimjadboaaGreatDoor.Ar

namespace Go.Proofs.YtboafgimjadboaaGreatDoor.Ar
open Go.RowKit

set_option maxHeartbeats 1000000 in
theorem claim_ok (lo hi sb x : Nat) (l : List Bool) (w : World) (h : Slots w lo hi sb l) (hx : l[x]? = some false) :
    Calls Tryz.prog 50 #[.pointer (some ⟨sb, 0, none⟩), .int .i64 (x : Int)] w fun e w' => e = .returned .nilIface ∧ Slots w' lo hi sb (l.set x true) ∧ Within lo hi w w' := by
  have hs := hid h
  obtain ⟨m1, m2, vF, vT, lbF, capF, lvF, lbT, capT, lvT, h1, h2, h3, h4, h5, h6, h7, h8⟩ := h
  have hxl : x < l.length := (List.getElem?_eq_some_iff.1 hx).1
  have hx2 := hid hx
  go_enter Tryz.func50, Tryz.ntmps50
  go_wp2_with fail
  refine (covers_yes sb 2 l.length x _ h8.size hxl).mono ?_
  rintro e w' ⟨rfl, rfl⟩
  go_wp2_with fail
  refine (has_in m1 m2 sb 2 l.length lbT capT x _ lvT _ h8 hxl).mono ?_
  rintro e w' ⟨d, rfl, hd, rfl⟩
  obtain rfl : d = false := by
    cases d with
    | false => rfl
    | true => have h := hd.1 rfl; rw [hx2.out] at h; cases h
  clear hd
  go_wp2_with fail
  refine (takeIn lo hi sb x l _ hs.out hx2.out).mono ?_
  rintro e w2 ⟨rfl, hs2, hw2⟩
  go_wp2_with fail
  go_ret
  exact ⟨rfl, hs2, hw2⟩

set_option maxHeartbeats 1000000 in
theorem nextS_nat (lo hi sb f : Nat) (l : List Bool) (w : World) (h : Slots w lo hi sb l) (hT : Tab w) (hf : f < 9223372036854775808) :
    Calls Tryz.prog 57 #[.pointer (some ⟨sb, 0, none⟩), .int .i64 (f : Int)] w fun e w' => Nexts (fun i => l[i]? = some true) f e ∧ w = w' := by
  obtain ⟨m1, m2, vF, vT, lbF, capF, lvF, lbT, capT, lvT, h1, h2, h3, h4, h5, h6, h7, h8⟩ := h
  by_cases hn : ∃ x, Least (fun i => l[i]? = some true) f x
  · obtain ⟨x, hx⟩ := hn
    have hx2 := hid hx
    go_enter Tryz.func57, Tryz.ntmps57
    go_wp2_with fail
    refine (next_hit m1 m2 sb 2 l.length lbT capT f x _ lvT _ h8 hT hf hx).mono ?_
    rintro e w' ⟨rfl, rfl⟩
    clear hx
    go_wp2_with fail
    go_ret2
    exact ⟨Or.inl ⟨x, rfl, hx2.out⟩, rfl⟩
  · have hno : ∀ x : Nat, l[x]? = some true → ¬ f ≤ x := fun x hx hf => hn (least_is x hx hf)
    have hx2 := hid hno
    go_enter Tryz.func57, Tryz.ntmps57
    go_wp2_with fail
    refine (next_miss m1 m2 sb 2 l.length lbT capT f _ lvT _ h8 hT hf hno).mono ?_
    rintro e w' ⟨rfl, rfl⟩
    clear hno hn
    go_wp2_with fail
    go_ret2
    exact ⟨Or.inr ⟨rfl, hx2.out⟩, rfl⟩

end Go.Proofs.YtboafgimjadboaaGreatDoor.Ar

namespace Go.Proofs.YtboafgimjadboaaGreatDoor.Ar
open Go.RowKit

/-- Outside the blocks of S all is as it was; new blocks may have come. -/
structure Turned (S : Nat → Prop) (w w' : World) : Prop where
  os : w'.os = w.os
  tape : w'.tape = w.tape
  output : w'.output = w.output
  size : w.heap.size ≤ w'.heap.size
  block : ∀ k, k < w.heap.size → ¬ S k → w'.heap[k]? = w.heap[k]?

theorem Turned.refl (S : Nat → Prop) (w : World) : Turned S w w := ⟨rfl, rfl, rfl, Nat.le_refl _, fun _ _ _ => rfl⟩

theorem Turned.trans {S : Nat → Prop} {a b c : World} (h : Turned S a b) (k : Turned S b c) : Turned S a c :=
  ⟨k.os.trans h.os, k.tape.trans h.tape, k.output.trans h.output, Nat.le_trans h.size k.size, fun i hi h1 => (k.block i (Nat.lt_of_lt_of_le hi h.size) h1).trans (h.block i hi h1)⟩

/-- What came new in the meantime may turn too. -/
theorem Turned.then {S S' : Nat → Prop} {a b c : World} (h : Turned S a b) (k : Turned S' b c) (hs : ∀ i, i < a.heap.size → S' i → S i) : Turned S a c :=
  ⟨k.os.trans h.os, k.tape.trans h.tape, k.output.trans h.output, Nat.le_trans h.size k.size, fun i hi h1 => (k.block i (Nat.lt_of_lt_of_le hi h.size) (fun e => h1 (hs i hi e))).trans (h.block i hi h1)⟩

theorem Turned.mono {S S' : Nat → Prop} {w w' : World} (h : Turned S w w') (hs : ∀ k, S k → S' k) : Turned S' w w' :=
  ⟨h.os, h.tape, h.output, h.size, fun k hk ho => h.block k hk (fun e => ho (hs k e))⟩

theorem Turned.ofBelow {w w' : World} (h : Below w.heap.size w w') (S : Nat → Prop) : Turned S w w' := ⟨h.os, h.tape, h.output, h.size, fun k hk _ => h.block k hk⟩

theorem Turned.below {S : Nat → Prop} {B : Nat} {w w' : World} (h : Turned S w w') (h1 : ∀ k, S k → B ≤ k) (h2 : B ≤ w.heap.size) : Below B w w' :=
  ⟨h.os, h.tape, h.output, h.size, fun k hk => h.block k (by omega) (fun e => by have := h1 k e; omega)⟩

theorem Turned.ofGrown {S : Nat → Prop} {w w' : World} {row : Option Nat} (h : w.grownBy w' row) (hs : ∀ k, row = some k → S k) : Turned S w w' :=
  ⟨h.os, h.tape, h.output, h.size, fun k hk ho => h.block k hk (fun e => ho (hs k e.symm))⟩

theorem Turned.drew {S : Nat → Prop} {a w : World} (h : Turned S a w) : Turned S a w.drew := ⟨h.os, h.tape, h.output, h.size, h.block⟩

theorem Turned.setCell {S : Nat → Prop} {a w : World} (h : Turned S a w) {p : Addr} (hp : S p.block) (u : Value) : Turned S a (w.setCell p u) :=
  h.trans ⟨rfl, rfl, rfl, by simp [World.setCell], fun k hk ho => Below.heap_setCell _ _ _ _ (fun e => ho (e ▸ hp))⟩

theorem Turned.alloc {S : Nat → Prop} {a w : World} (h : Turned S a w) (o : Obj) : Turned S a (w.alloc o) :=
  h.trans ⟨rfl, rfl, rfl, by simp, fun k hk _ => Below.heap_alloc _ _ _ hk⟩

theorem Turned.cell {S : Nat → Prop} {w w' : World} (h : Turned S w w') {p : Addr} {v : Value} (hc : w.cell? p = some v) (ho : ¬ S p.block) : w'.cell? p = some v :=
  (World.cell?_of_block (h.block p.block (World.block_lt_of_cell? w p hc) ho)).trans hc

/-- The blocks of one's own: lo .. hi - 1, and the one where the places lie. -/
def own (lo hi : Nat) (ob : Option Nat) (k : Nat) : Prop := (lo ≤ k ∧ k < hi) ∨ ob = some k

/-- The cells of places. -/
def pcs : List (Int × Int) → List Value
  | [] => []
  | p :: ps => .int .u32 p.1 :: .int .i64 p.2 :: pcs ps

theorem pcs_length : ∀ ps : List (Int × Int), (pcs ps).length = ps.length * 2
  | [] => rfl
  | p :: ps => by simp [pcs, pcs_length ps]; omega

theorem pcs_append : ∀ (a b : List (Int × Int)), pcs (a ++ b) = pcs a ++ pcs b
  | [], _ => rfl
  | p :: a, b => by simp [pcs, pcs_append a b]

theorem pcs_get : ∀ (ps : List (Int × Int)) (i : Nat) (p : Int × Int), ps[i]? = some p → (pcs ps)[i * 2]? = some (.int .u32 p.1) ∧ (pcs ps)[i * 2 + 1]? = some (.int .i64 p.2)
  | [], i, p, h => by simp at h
  | q :: ps, 0, p, h => by simp at h; subst h; simp [pcs]
  | q :: ps, i + 1, p, h => by
    have := pcs_get ps i p (by simpa using h)
    rw [show (i + 1) * 2 = i * 2 + 2 from by omega]
    simpa [pcs] using this

theorem pcs_set : ∀ (ps : List (Int × Int)) (i : Nat) (p : Int × Int), pcs (ps.set i p) = ((pcs ps).set (i * 2) (.int .u32 p.1)).set (i * 2 + 1) (.int .i64 p.2)
  | [], i, p => by simp [pcs]
  | q :: ps, 0, p => by simp [pcs]
  | q :: ps, i + 1, p => by
    rw [show (i + 1) * 2 = i * 2 + 2 from by omega]
    simp [pcs, pcs_set ps i p]

theorem pcs_one (ps : List (Int × Int)) : ∀ u ∈ pcs ps, u.oneCell' = true := by
  induction ps with
  | nil => simp [pcs]
  | cons p ps ih =>
    intro u hu
    simp only [pcs, List.mem_cons] at hu
    rcases hu with rfl | rfl | h
    · rfl
    · rfl
    · exact ih u h

theorem pcs_inv : ∀ (ps : List (Int × Int)) (j : Nat) (u : Value), (pcs ps)[j]? = some u → ∃ (i : Nat) (p : Int × Int), ps[i]? = some p ∧ ((j = i * 2 ∧ u = .int .u32 p.1) ∨ (j = i * 2 + 1 ∧ u = .int .i64 p.2))
  | [], j, u, h => by simp [pcs] at h
  | p :: ps, 0, u, h => ⟨0, p, rfl, Or.inl ⟨rfl, by simpa [pcs] using h.symm⟩⟩
  | p :: ps, 1, u, h => ⟨0, p, rfl, Or.inr ⟨rfl, by simpa [pcs] using h.symm⟩⟩
  | p :: ps, j + 2, u, h => by
    obtain ⟨i, q, hq, h2⟩ := pcs_inv ps j u (by simpa [pcs] using h)
    exact ⟨i + 1, q, by simpa using hq, h2.imp (fun e => ⟨by omega, e.2⟩) (fun e => ⟨by omega, e.2⟩)⟩

/-- The blocks lo .. hs - 1 are as they were. -/
theorem Slots.same {w w' : World} {lo hs sb : Nat} {l : List Bool} (h1 : Slots w lo hs sb l) (hsz : w.heap.size ≤ w'.heap.size) (hk : ∀ k, lo ≤ k → k < hs → w'.heap[k]? = w.heap[k]?) : Slots w' lo hs sb l := by
  obtain ⟨m1, m2, vF, vT, lbF, capF, lvF, lbT, capT, lvT, g1, g2, g3, g4, g5, g6, g7, g8⟩ := h1
  have mk : ∀ {a b so lb cap : Nat} {P : Nat → Prop} {lv : List (Nat × List Nat)}, lo ≤ a → b ≤ hs → Marks w a b sb so l.length P lb cap lv → Marks w' a b sb so l.length P lb cap lv := by
    intro a b so lb cap P lv ha hb hm
    have hc : ∀ {p : Addr} {v : Value}, w.cell? p = some v → lo ≤ p.block → p.block < hs → w'.cell? p = some v := fun hv e1 e2 => (World.cell?_of_block (hk _ e1 e2)).trans hv
    refine ⟨hc hm.size (by simp; omega) (by simp; omega), hc hm.levels (by simp; omega) (by simp; omega), hm.out, ⟨fun k b ws e => ?_, fun k b ws e => ?_, hm.rep.apart, hm.rep.inner, hm.rep.lbIn, Nat.le_trans hm.rep.hiIn hsz⟩, hm.good⟩
    · have := hm.rep.inner k b ws e
      exact (hm.rep.words k b ws e).of (hk b (by omega) (by omega))
    · have := hm.rep.lbIn
      exact hc (hm.rep.row k b ws e) (by simp; omega) (by simp; omega)
  exact ⟨m1, m2, vF, vT, lbF, capF, lvF, lbT, capT, lvT, g1, g2, g3, g4, Nat.le_trans g5 hsz, (hk sb (by omega) (by omega)).trans g6, mk (Nat.le_refl _) (by omega) g7, mk g1 (by omega) g8⟩

/-- What lies in memory: block ab; the slots sb with these taken; c worn; the places in the block ob, if there is one; the rest in lo .. hi - 1. -/
def Hold (w : World) (lo hi ab sb : Nat) (ob : Option Nat) (bs : List Bool) (c : Nat) (ps : List (Int × Int)) : Prop :=
  ∃ hs pv, Slots w lo hs sb bs ∧ hs ≤ ab ∧ ab < hi ∧ hi ≤ w.heap.size ∧
    w.heap[ab]? = some (.cells #[.pointer (some ⟨sb, 0, none⟩), .int .i64 ((c : Nat) : Int), pv] 108 (0, 0)) ∧
    w.ownsRow hs 86 2 pv ps.length (pcs ps) ∧ pv.ownBlock = ob ∧ ob ≠ some ab

theorem ownsRow_same {w w' : World} {base : Nat} {e : TypeId} {size n : Nat} {v : Value} {xs : List Value} (h : w.ownsRow base e size v n xs) (hk : ∀ k, v.ownBlock = some k → w'.heap[k]? = w.heap[k]?) : w'.ownsRow base e size v n xs := by
  refine ⟨h.1, ?_⟩
  rcases h.2 with hn | ⟨g, cap, cur, rfl, hb, hgg, rest⟩
  · exact .inl hn
  · refine .inr ⟨g, cap, cur, rfl, hb, ?_, rest⟩
    rw [hk g rfl]
    exact hgg

theorem Hold.pos {w : World} {lo hi ab sb c : Nat} {ob : Option Nat} {bs : List Bool} {ps : List (Int × Int)} (h : Hold w lo hi ab sb ob bs c ps) :
    1 ≤ bs.length ∧ bs.length ≤ 1048576 ∧ lo ≤ ab ∧ ab < hi ∧ hi ≤ w.heap.size ∧ (∀ k, ob = some k → lo ≤ k ∧ k < w.heap.size ∧ k ≠ ab) := by
  obtain ⟨hs, pv, h1, h2, h3, h4, h5, h6, h7, h8⟩ := h
  have hp := h1.pos
  refine ⟨hp.1, hp.2.1, by omega, h3, h4, fun k hk => ?_⟩
  have := h6.lt k (h7.trans hk)
  exact ⟨by omega, this.2, fun e => h8 (e ▸ hk)⟩

theorem Hold.of {w w' : World} {S : Nat → Prop} {lo hi ab sb c : Nat} {ob : Option Nat} {bs : List Bool} {ps : List (Int × Int)} (h : Hold w lo hi ab sb ob bs c ps) (hw : Turned S w w') (ho : ∀ k, own lo hi ob k → ¬ S k) : Hold w' lo hi ab sb ob bs c ps := by
  obtain ⟨hs, pv, h1, h2, h3, h4, h5, h6, h7, h8⟩ := h
  have hp := h1.pos
  exact ⟨hs, pv, h1.same hw.size (fun k a b => hw.block k (by omega) (ho k (Or.inl ⟨a, by omega⟩))), h2, h3, Nat.le_trans h4 hw.size, (hw.block ab (by omega) (ho ab (Or.inl ⟨by omega, h3⟩))).trans h5,
    ownsRow_same h6 (fun k hk => hw.block k (h6.lt k hk).2 (ho k (Or.inr (h7 ▸ hk)))), h7, h8⟩

theorem Hold.below {w w' : World} {lo hi ab sb c : Nat} {ob : Option Nat} {bs : List Bool} {ps : List (Int × Int)} (h : Hold w lo hi ab sb ob bs c ps) (hb : Below w.heap.size w w') : Hold w' lo hi ab sb ob bs c ps :=
  h.of (Turned.ofBelow hb (fun _ => False)) (fun _ _ e => e)

theorem Hold.cell0 {w : World} {lo hi ab sb c : Nat} {ob : Option Nat} {bs : List Bool} {ps : List (Int × Int)} (h : Hold w lo hi ab sb ob bs c ps) : w.cell? ⟨ab, 0, none⟩ = some (.pointer (some ⟨sb, 0, none⟩)) := by
  obtain ⟨hs, pv, h1, h2, h3, h4, h5, h6, h7, h8⟩ := h
  unfold World.cell?; rw [h5]; simp

theorem Hold.cell1 {w : World} {lo hi ab sb c : Nat} {ob : Option Nat} {bs : List Bool} {ps : List (Int × Int)} (h : Hold w lo hi ab sb ob bs c ps) : w.cell? ⟨ab, 1, none⟩ = some (.int .i64 (c : Int)) ∧ w.frozen? ⟨ab, 1, none⟩ = false := by
  obtain ⟨hs, pv, h1, h2, h3, h4, h5, h6, h7, h8⟩ := h
  constructor
  · unfold World.cell?; rw [h5]; simp
  · unfold World.frozen?; rw [h5]; simp

theorem Hold.hi {w : World} {lo hi hi' ab sb c : Nat} {ob : Option Nat} {bs : List Bool} {ps : List (Int × Int)} (h : Hold w lo hi ab sb ob bs c ps) (e1 : hi ≤ hi') (e2 : hi' ≤ w.heap.size) : Hold w lo hi' ab sb ob bs c ps := by
  obtain ⟨hs, pv, h1, h2, h3, h4, h5, h6, h7, h8⟩ := h
  exact ⟨hs, pv, h1, h2, by omega, e2, h5, h6, h7, h8⟩

/-- The slots alone turn. -/
theorem Hold.slots {w : World} {lo hi ab sb c : Nat} {ob : Option Nat} {bs : List Bool} {ps : List (Int × Int)} (h : Hold w lo hi ab sb ob bs c ps) :
    ∃ hs, Slots w lo hs sb bs ∧ hs ≤ ab ∧ ∀ w' bs', Slots w' lo hs sb bs' → Within lo hs w w' → Hold w' lo hi ab sb ob bs' c ps := by
  obtain ⟨hs, pv, h1, h2, h3, h4, h5, h6, h7, h8⟩ := h
  refine ⟨hs, h1, h2, fun w' bs' hs' hw => ⟨hs, pv, hs', h2, h3, Nat.le_trans h4 hw.size, (hw.block ab (by omega) (Or.inr h2)).trans h5, ownsRow_same h6 (fun k hk => ?_), h7, h8⟩⟩
  have := h6.lt k hk
  exact hw.block k this.2 (Or.inr this.1)

/-- How many are worn turns. -/
theorem Hold.worn {w : World} {lo hi ab sb c : Nat} {ob : Option Nat} {bs : List Bool} {ps : List (Int × Int)} (h : Hold w lo hi ab sb ob bs c ps) (c' : Nat) : Hold (w.setCell ⟨ab, 1, none⟩ (.int .i64 (c' : Int))) lo hi ab sb ob bs c' ps := by
  obtain ⟨hs, pv, h1, h2, h3, h4, h5, h6, h7, h8⟩ := h
  have hk : ∀ k, k ≠ ab → (w.setCell ⟨ab, 1, none⟩ (.int .i64 (c' : Int))).heap[k]? = w.heap[k]? := fun k hk => Below.heap_setCell _ _ _ _ hk
  refine ⟨hs, pv, h1.same (by simp [World.setCell]) (fun k a b => hk k (by omega)), h2, h3, by simpa [World.setCell] using h4, ?_, ownsRow_same h6 (fun k e => hk k (fun e' => h8 (by rw [← h7, e, e']))), h7, h8⟩
  unfold World.setCell
  rw [Array.getElem?_modify, if_pos rfl, h5]
  simp

/-- The places' slice, and what of it turns. -/
theorem Hold.row {w : World} {lo hi ab sb c : Nat} {ob : Option Nat} {bs : List Bool} {ps : List (Int × Int)} (h : Hold w lo hi ab sb ob bs c ps) :
    ∃ hs pv, w.cell? ⟨ab, 2, none⟩ = some pv ∧ w.frozen? ⟨ab, 2, none⟩ = false ∧ w.ownsRow hs 86 2 pv ps.length (pcs ps) ∧ pv.ownBlock = ob ∧ hs ≤ ab ∧ lo ≤ hs ∧
      (∀ w' ps', w'.ownsRow hs 86 2 pv ps'.length (pcs ps') → w.grownBy w' ob → Hold w' lo hi ab sb ob bs c ps') ∧
      (∀ w' ps' pv', w'.ownsRow hs 86 2 pv' ps'.length (pcs ps') → w.grownBy w' ob → pv'.ownBlock ≠ some ab → Hold (w'.setCell ⟨ab, 2, none⟩ pv') lo hi ab sb pv'.ownBlock bs c ps') := by
  obtain ⟨hs, pv, h1, h2, h3, h4, h5, h6, h7, h8⟩ := h
  have hp := h1.pos
  refine ⟨hs, pv, by unfold World.cell?; rw [h5]; simp, by unfold World.frozen?; rw [h5]; simp, h6, h7, h2, by omega, fun w' ps' ho hg => ?_, fun w' ps' pv' ho hg hne => ?_⟩
  · have hk : ∀ k, k < hs ∨ k = ab → w'.heap[k]? = w.heap[k]? := fun k hk => hg.block k (by omega) (fun e => by
      have := h6.lt k (h7.trans e.symm)
      rcases hk with h' | rfl
      · omega
      · exact h8 e.symm)
    exact ⟨hs, pv, h1.same hg.size (fun k _ b => hk k (Or.inl b)), h2, h3, Nat.le_trans h4 hg.size, (hk ab (Or.inr rfl)).trans h5, ho, h7, h8⟩
  · have hk : ∀ k, k < hs ∨ k = ab → w'.heap[k]? = w.heap[k]? := fun k hk => hg.block k (by omega) (fun e => by
      have := h6.lt k (h7.trans e.symm)
      rcases hk with h' | rfl
      · omega
      · exact h8 e.symm)
    have hk2 : ∀ k, k ≠ ab → (w'.setCell ⟨ab, 2, none⟩ pv').heap[k]? = w'.heap[k]? := fun k hk => Below.heap_setCell _ _ _ _ hk
    have hsz := hg.size
    refine ⟨hs, pv', h1.same (by simpa [World.setCell] using hsz) (fun k _ b => (hk2 k (by omega)).trans (hk k (Or.inl b))), h2, h3, by simp [World.setCell]; omega, ?_, ownsRow_same ho (fun k e => hk2 k (fun e' => hne (by rw [e, e']))), rfl, hne⟩
    have h5' := (hk ab (Or.inr rfl)).trans h5
    unfold World.setCell
    rw [Array.getElem?_modify, if_pos rfl, h5']
    simp

/-- What an Arena holds: of n places these are the first. -/
def Arena (w : World) (lo hi ab : Nat) (ob : Option Nat) (n : Nat) (ps : List (Int × Int)) : Prop := (∃ sb, Hold w lo hi ab sb ob (held n ps) (wornN ps) ps) ∧ Fair n ps

theorem Arena.pos {w : World} {lo hi ab n : Nat} {ob : Option Nat} {ps : List (Int × Int)} (h : Arena w lo hi ab ob n ps) :
    1 ≤ n ∧ n ≤ 1048576 ∧ lo ≤ ab ∧ ab < hi ∧ hi ≤ w.heap.size ∧ (∀ k, ob = some k → lo ≤ k ∧ k < w.heap.size ∧ k ≠ ab) := by
  obtain ⟨⟨sb, hh⟩, hf⟩ := h
  have hp := hh.pos
  rw [held_length hf.le] at hp
  exact hp

theorem Arena.of {w w' : World} {S : Nat → Prop} {lo hi ab n : Nat} {ob : Option Nat} {ps : List (Int × Int)} (h : Arena w lo hi ab ob n ps) (hw : Turned S w w') (ho : ∀ k, own lo hi ob k → ¬ S k) : Arena w' lo hi ab ob n ps :=
  ⟨h.1.imp fun _ hh => hh.of hw ho, h.2⟩

theorem Arena.below {w w' : World} {lo hi ab n : Nat} {ob : Option Nat} {ps : List (Int × Int)} (h : Arena w lo hi ab ob n ps) (hb : Below w.heap.size w w') : Arena w' lo hi ab ob n ps :=
  ⟨h.1.imp fun _ hh => hh.below hb, h.2⟩

end Go.Proofs.YtboafgimjadboaaGreatDoor.Ar

namespace Go.Proofs.YtboafgimjadboaaGreatDoor.Ar
open Go.RowKit

/-- The slice at 'ad' holds these places. -/
structure Prow (w : World) (ad : Option Addr) (ps : List (Int × Int)) : Prop where
  nil : ad = none → ps = []
  bound : ps.length ≤ 9223372036854775807
  num : ∀ (j : Nat) p, ps[j]? = some p → 0 ≤ p.1 ∧ p.1 < 4294967296
  cell : ∀ a, ad = some a → ∀ (j : Nat) p, ps[j]? = some p → w.cell? (a.add (j * 2)) = some (.int .u32 p.1) ∧ w.cell? (a.add (j * 2 + 1)) = some (.int .i64 p.2)

theorem add_add (a : Addr) (i j : Nat) : (a.add i).add j = a.add (i + j) := by
  unfold Addr.add
  by_cases hi : i = 0
  · subst hi; simp
  · by_cases hj : j = 0
    · subst hj; simp
    · simp [hi, hj, Nat.add_assoc]

theorem add_block (a : Addr) (j : Nat) : (a.add j).block = a.block := by unfold Addr.add; split <;> rfl

theorem Prow.below {w w' : World} {ad : Option Addr} {ps : List (Int × Int)} (h : Prow w ad ps) (hb : Below w.heap.size w w') : Prow w' ad ps :=
  ⟨h.nil, h.bound, h.num, fun a ha j p hz => by
    obtain ⟨h1, h2⟩ := h.cell a ha j p hz
    exact ⟨(hb.cell (World.block_lt_of_cell? w _ h1)).trans h1, (hb.cell (World.block_lt_of_cell? w _ h2)).trans h2⟩⟩

theorem Prow.of {w w' : World} {S : Nat → Prop} {ad : Option Addr} {ps : List (Int × Int)} (h : Prow w ad ps) (hw : Turned S w w') (ho : ∀ a, ad = some a → ¬ S a.block) : Prow w' ad ps :=
  ⟨h.nil, h.bound, h.num, fun a ha j p hz => by
    obtain ⟨h1, h2⟩ := h.cell a ha j p hz
    exact ⟨hw.cell h1 (by rw [add_block]; exact ho a ha), hw.cell h2 (by rw [add_block]; exact ho a ha)⟩⟩

theorem Prow.first {w : World} {a : Addr} {ps : List (Int × Int)} (h : Prow w (some a) ps) {j : Nat} {p : Int × Int} (hp : ps[j]? = some p) : w.cell? (a.add (j * 2)) = some (.int .u32 p.1) := (h.cell a rfl j p hp).1
theorem Prow.second {w : World} {a : Addr} {ps : List (Int × Int)} (h : Prow w (some a) ps) {j : Nat} {p : Int × Int} (hp : ps[j]? = some p) : w.cell? ⟨(a.add (j * 2)).block, (a.add (j * 2)).off + 1, none⟩ = some (.int .i64 p.2) := by
  show w.cell? ((a.add (j * 2)).add 1) = _
  rw [add_add]; exact (h.cell a rfl j p hp).2

def oddB (p : Int × Int) : Bool := if p.2 = 0 then p.1 == 4294967295 else if p.2 = 1 then p.1 == 0 else if p.2 = 2 then p.1 != 4294967295 else true

theorem oddB_ok {p : Int × Int} (h1 : 0 ≤ p.1) (h2 : p.1 < 4294967296) : oddB p = false ↔ okP p := by
  unfold oddB okP
  by_cases e0 : p.2 = 0
  · simp [e0, h1, h2]
  · by_cases e1 : p.2 = 1
    · simp [e1, h1, h2]
    · by_cases e2 : p.2 = 2
      · simp [e2, h1, h2]
      · simp [e0, e1, e2]

set_option maxHeartbeats 1000000 in
theorem odd_ok (a s : Int) (w : World) : Calls Tryz.prog 77 #[.agg #[.int .u32 a, .int .i64 s]] w fun e w' => e = .returned (.bool (oddB (a, s))) ∧ Below w.heap.size w w' := by
  have hb : Below w.heap.size w (w.alloc (.cells #[.int .u32 a, .int .i64 s] 86)) := (Below.refl _ _).alloc (Nat.le_refl _) _
  by_cases e0 : s = 0
  · subst e0
    go_enter Tryz.func77, Tryz.ntmps77
    go_wp2_with fail
    go_ret
    exact ⟨by simp [oddB], hb⟩
  · have t0 : decide (s = 0) = false := decide_eq_false e0
    by_cases e1 : s = 1
    · subst e1
      go_enter Tryz.func77, Tryz.ntmps77
      go_wp2_with fail
      go_ret
      exact ⟨by simp [oddB], hb⟩
    · have t1 : decide (s = 1) = false := decide_eq_false e1
      by_cases e2 : s = 2
      · subst e2
        go_enter Tryz.func77, Tryz.ntmps77
        go_wp2_with fail
        go_ret
        exact ⟨by simp [oddB], hb⟩
      · have t2 : decide (s = 2) = false := decide_eq_false e2
        go_enter Tryz.func77, Tryz.ntmps77
        go_wp2_with fail
        go_ret
        exact ⟨by simp [oddB, e0, e1, e2], hb⟩

set_option maxHeartbeats 1000000 in
theorem index_ok (ad : Option Addr) (ps : List (Int × Int)) (cap : Nat) (w : World) (h : Prow w ad ps) :
    Calls Tryz.prog 96 #[.slice ad ps.length cap, .func (.func 77) #[] #[]] w fun e w' => ∃ z : Int, e = .returned (.int .i64 z) ∧ decide (0 ≤ z) = ps.any oddB ∧ Below w.heap.size w w' := by
  have hl := h.bound
  go_enter Tryz.func96, Tryz.ntmps96
  go_wp2_with fail
  go_loopw [8] (fun u wr => ∃ j : Nat, j ≤ ps.length ∧ u = .int .i64 (j : Int) ∧ Hid (∀ (k : Nat) p, ps[k]? = some p → k < j → oddB p = false) ∧ Below w.heap.size w wr)
    (fun u _ => ps.length - (intOf u).toNat)
  case atStart => exact ⟨0, by omega, by go_num, fun _ _ _ h => by omega, Below.refl _ _⟩
  case round =>
    obtain ⟨j, hj, rfl, hno, hbr⟩ := hrel
    rcases Nat.lt_or_ge j ps.length with hlt | hge
    · obtain ⟨p, hp⟩ : ∃ p, ps[j]? = some p := ⟨_, List.getElem?_eq_getElem hlt⟩
      cases ad with
      | none => have := h.nil rfl; subst this; simp at hlt
      | some a =>
        have hc0 := (h.below hbr).first hp
        have hc1 := (h.below hbr).second hp
        have hph := hid hp
        clear hp
        go_wp2_with fail
        refine (odd_ok p.1 p.2 _).mono ?_
        rintro e w2 ⟨rfl, b2⟩
        have hb2 := hbr.trans (b2.mono hbr.size)
        cases ho : oddB (p.1, p.2) with
        | true =>
          go_wp2_with fail
          go_ret
          refine ⟨_, rfl, ?_, hb2⟩
          have : ps.any oddB = true := List.any_eq_true.2 ⟨p, List.mem_of_getElem? hph.out, ho⟩
          rw [this]
          simp
        | false =>
          have hoh := hid ho
          clear ho hc0 hc1 b2
          go_wp2_with fail
          go_roundw
          case rel =>
            refine ⟨j + 1, by omega, by go_num, fun k q hq hk => ?_, hb2⟩
            rcases Nat.lt_or_ge k j with h1 | h1
            · exact hno.out k q hq h1
            · obtain rfl : k = j := by omega
              rw [hph.out] at hq
              cases hq
              exact hoh.out
          case measure => simp [intOf]; omega
    · go_wp2_with fail
      go_ret
      refine ⟨_, rfl, ?_, hbr⟩
      have : ps.any oddB = false := by
        rw [List.any_eq_false]
        intro p hp
        obtain ⟨k, hk⟩ := List.mem_iff_getElem?.1 hp
        rw [hno.out k p hk (by have := (List.getElem?_eq_some_iff.1 hk).1; omega)]
        simp
      rw [this]
      rfl

set_option maxHeartbeats 1000000 in
theorem contains_ok (ad : Option Addr) (ps : List (Int × Int)) (cap : Nat) (w : World) (h : Prow w ad ps) :
    Calls Tryz.prog 76 #[.slice ad ps.length cap, .func (.func 77) #[] #[]] w fun e w' => e = .returned (.bool (ps.any oddB)) ∧ Below w.heap.size w w' := by
  go_enter Tryz.func76, Tryz.ntmps76
  go_wp2_with fail
  refine (index_ok ad ps cap _ h).mono ?_
  rintro e w2 ⟨z, rfl, hz, b2⟩
  go_wp2_with fail
  go_ret
  exact ⟨by rw [← hz]; rfl, b2⟩

/-- What mayBe says. -/
def mayB (n : Int) (ps : List (Int × Int)) : Bool := ps.isEmpty || (decide ((ps.length : Int) ≤ n) && decide ((atP ps (ps.length - 1)).1 ≠ 0) && !ps.any oddB)

theorem mayB_fair (n : Nat) (ps : List (Int × Int)) (hn : ∀ (j : Nat) p, ps[j]? = some p → 0 ≤ p.1 ∧ p.1 < 4294967296) : mayB n ps = true ↔ Fair n ps := by
  unfold mayB
  cases ps with
  | nil => simp [Fair.nil]
  | cons q qs =>
    generalize hps : q :: qs = ps at *
    have hne : ps.isEmpty = false := by subst hps; rfl
    have hpos : 0 < ps.length := by subst hps; simp
    rw [hne]
    simp only [Bool.false_or, Bool.and_eq_true, decide_eq_true_eq, Bool.not_eq_true', List.any_eq_false]
    obtain ⟨l, hl⟩ : ∃ l, ps[ps.length - 1]? = some l := ⟨_, List.getElem?_eq_getElem (by omega)⟩
    rw [atP_some hl]
    constructor
    · rintro ⟨⟨h1, h2⟩, h3⟩
      refine ⟨by omega, fun i p hp => ?_, fun i p hp hi => ?_⟩
      · have := h3 p (List.mem_of_getElem? hp)
        exact (oddB_ok (hn i p hp).1 (hn i p hp).2).1 (by simpa using this)
      · obtain rfl : i = ps.length - 1 := by omega
        rw [hl] at hp
        cases hp
        exact h2
    · intro hf
      refine ⟨⟨by have := hf.le; omega, hf.last _ _ hl (by omega)⟩, fun p hp => ?_⟩
      obtain ⟨i, hi⟩ := List.mem_iff_getElem?.1 hp
      rw [(oddB_ok (hn i p hi).1 (hn i p hi).2).2 (hf.ok i p hi)]
      simp

set_option maxHeartbeats 1000000 in
theorem mayBe_ok (n : Int) (ad : Option Addr) (ps : List (Int × Int)) (cap : Nat) (w : World) (h : Prow w ad ps) :
    Calls Tryz.prog 48 #[.int .i64 n, .slice ad ps.length cap] w fun e w' => e = .returned (.bool (mayB n ps)) ∧ Below w.heap.size w w' := by
  have hl := h.bound
  rcases Nat.eq_zero_or_pos ps.length with h0 | hpos
  · have : ps = [] := List.eq_nil_of_length_eq_zero h0
    subst this
    go_enter Tryz.func48, Tryz.ntmps48
    go_wp2_with fail
    go_ret
    exact ⟨rfl, Below.refl _ _⟩
  · have hne : ps.isEmpty = false := by cases ps with
      | nil => simp at hpos
      | cons _ _ => rfl
    have hm : Hid (mayB n ps = (decide ((ps.length : Int) ≤ n) && decide ((atP ps (ps.length - 1)).1 ≠ 0) && !ps.any oddB)) := by show mayB n ps = _; unfold mayB; rw [hne]; rfl
    by_cases hn : (ps.length : Int) ≤ n
    · obtain ⟨p, hp⟩ : ∃ p, ps[ps.length - 1]? = some p := ⟨_, List.getElem?_eq_getElem (by omega)⟩
      cases ad with
      | none => have := h.nil rfl; subst this; simp at hpos
      | some a =>
        obtain ⟨m, hM⟩ : ∃ m, ps.length = m + 1 := ⟨ps.length - 1, by omega⟩
        have hat := hid (atP_some hp)
        have hc := h.first hp
        have hco := contains_ok (some a) ps cap w h
        rw [hM] at hc hm hn hl hat hco
        simp only [Nat.add_sub_cancel] at hc hm hat
        rw [hM]
        clear hp hpos hM
        have hn2 := hid hn
        by_cases hz : p.1 = 0
        · rw [hz] at hc
          have tn : decide (n < (m : Int) + 1) = false := decide_eq_false (by simp at hn; omega)
          go_enter Tryz.func48, Tryz.ntmps48
          go_wp2_with fail
          go_ret
          refine ⟨?_, Below.refl _ _⟩
          rw [hm.out, hat.out, hz]
          simp
        · have hz2 : Hid (p.1 ≠ 0) := hz
          have tz : (p.1 == 0) = false := by simpa using hz
          have tn : decide (n < (m : Int) + 1) = false := decide_eq_false (by simp at hn; omega)
          go_enter Tryz.func48, Tryz.ntmps48
          go_wp2_with fail
          refine hco.mono ?_
          rintro e w2 ⟨rfl, b2⟩
          go_wp2_with fail
          go_ret
          refine ⟨?_, b2⟩
          rw [hm.out, hat.out, decide_eq_true hn2.out, decide_eq_true hz2.out]
          simp
    · have tn : decide (n < (ps.length : Int)) = true := decide_eq_true (by omega)
      have hn2 := hid hn
      go_enter Tryz.func48, Tryz.ntmps48
      go_wp2_with fail
      go_ret
      refine ⟨?_, Below.refl _ _⟩
      rw [hm.out, decide_eq_false (show ¬ (ps.length : Int) ≤ n by have := hn2.out; omega)]
      simp

end Go.Proofs.YtboafgimjadboaaGreatDoor.Ar
