/- 'New', walked. The calls of a Forest that ask nothing of a closure. 'descend' and 'seek', walked: a way down that a closure tells. 'toward'; 'Join', walked. From a node to the one behind it: 'next', walked. 'List', walked. -/
import Derived.Test.YtdmkbcbgjdmgdaaGreatDoorBseqb
import Derived.Handy
import Derived.Deep.AppendLies
import Derived.OwnWalk
namespace Go.Proofs.YtdmkbcbgjdmgdaaGreatDoor
open Go.RowKit
set_option linter.unusedVariables false

def T0 : Tb := fun x => if x = 0 then ndN else nd0
def one : Nat → List Nat := fun x => [x]
def zero : Nat → Int := fun _ => 0

theorem gd_new : Gd 1 T0 zero (fun x => if x = 0 then [] else [x]) one := by
  have hk : ∀ x s, (T0 x).k s = 0 := fun x s => by unfold T0; split <;> cases s <;> rfl
  have hu : ∀ x, (T0 x).up = 0 := fun x => by unfold T0; split <;> rfl
  refine ⟨⟨rfl, rfl, fun x hx s => ?_, fun x _ s h => absurd (hk x s) h, fun x _ h => absurd (hu x) h, fun x => ?_, fun x hx => ?_, fun x => ?_, fun x hx _ => ?_, fun x _ h => absurd (hu x) h⟩, fun x hx => ?_, Nat.le_refl _, by decide⟩
  · rw [if_neg hx, hk, hk]
    have : (T0 x).t = false := by unfold T0; split <;> rfl
    rw [this]
    cases s <;> rfl
  · split <;> simp
  · unfold T0; rw [if_neg hx]; rfl
  · by_cases h : x = 0
    · subst h
      exact ⟨rfl, by show (0 : Int) = wrap64 0; unfold wrap64; omega, rfl, rfl⟩
    · unfold T0
      rw [if_neg h, if_neg h]
      exact ⟨rfl, by simp [sumV, zero, wrap64, nd0], by simp [lowV, zero, nd0]; omega, by simp [highV, zero, nd0]; omega⟩
  · rw [if_neg hx]; rfl
  · unfold T0; rw [if_neg (by omega)]

set_option maxRecDepth 100000 in
set_option maxHeartbeats 1000000 in
theorem nothing_ok (w : World) : Calls Tryz.prog 94 #[] w fun e w' => e = .returned (.agg #[.int .i64 0, .int .i64 0, .int .i64 9223372036854775807, .int .i64 (-9223372036854775808), .int .i32 (-1), .int .i32 0, .int .i32 0, .int .i32 0, .bool false]) ∧ Below w.heap.size w w' := by
  go_enter Tryz.func94, Tryz.ntmps94
  go_wp2_with fail
  go_returns
  exact ⟨rfl, (Below.refl _ _).alloc (Nat.le_refl _) _⟩

set_option maxRecDepth 100000 in
set_option maxHeartbeats 1000000 in
theorem new_bad (n : Int) (w : World) (hn : n < 1 ∨ 8388608 < n) : Calls Tryz.prog 61 #[.int .i64 n] w fun e w' => e = .returned (.tuple #[.pointer none, .iface 63 (.int .i64 1)]) ∧ w = w' := by
  by_cases h1 : n < 1
  · have t1 : decide (n < 1) = true := decide_eq_true h1
    go_enter Tryz.func61, Tryz.ntmps61
    go_wp2_with fail
    go_ret2
    exact ⟨rfl, rfl⟩
  · have t1 : decide (n < 1) = false := decide_eq_false h1
    have t2 : decide (8388608 < n) = true := decide_eq_true (by omega)
    go_enter Tryz.func61, Tryz.ntmps61
    go_wp2_with fail
    go_ret2
    exact ⟨rfl, rfl⟩

set_option maxRecDepth 100000 in
set_option maxHeartbeats 1000000 in
theorem new_ok (n : Nat) (w : World) (h1 : 1 ≤ n) (h2 : n ≤ 8388608) : Calls Tryz.prog 61 #[.int .i64 (n : Int)] w fun e w' => ∃ fb, e = .returned (.tuple #[.pointer (some ⟨fb, 0, none⟩), .nilIface]) ∧ FS w.heap.size w fb n zero one w' := by
  have t1 : decide ((n : Int) < 1) = false := decide_eq_false (by omega)
  have t2 : decide (8388608 < (n : Int)) = false := decide_eq_false (by omega)
  go_enter Tryz.func61, Tryz.ntmps61
  go_wp2_with fail
  refine (nothing_ok _).mono ?_
  rintro e w1 ⟨rfl, b1⟩
  go_wp2_with fail
  first | go_ret2 | go_returns
  have hn1 := heap_alloc_new w1 (.cells #[.int .i64 0, .int .i64 0, .int .i64 9223372036854775807, .int .i64 (-9223372036854775808), .int .i32 (-1), .int .i32 0, .int .i32 0, .int .i32 0, .bool false] 140)
  have hb2 := b1.alloc b1.size (.cells #[.int .i64 0, .int .i64 0, .int .i64 9223372036854775807, .int .i64 (-9223372036854775808), .int .i32 (-1), .int .i32 0, .int .i32 0, .int .i32 0, .bool false] 140)
  have hsz := b1.size
  have hn2 := heap_alloc_new (w1.alloc (.cells #[.int .i64 0, .int .i64 0, .int .i64 9223372036854775807, .int .i64 (-9223372036854775808), .int .i32 (-1), .int .i32 0, .int .i32 0, .int .i32 0, .bool false] 140)) (.cells #[.int .i64 (n : Int), .slice (some ⟨w1.heap.size, 0, none⟩) 1 1] 144)
  have hs2 : (w1.alloc (.cells #[.int .i64 0, .int .i64 0, .int .i64 9223372036854775807, .int .i64 (-9223372036854775808), .int .i32 (-1), .int .i32 0, .int .i32 0, .int .i32 0, .bool false] 140)).heap.size = w1.heap.size + 1 := by simp
  rw [hs2] at hn2
  refine ⟨w1.heap.size + 1, rfl, ⟨w1.heap.size, 1, T0, _, ⟨hn2, ?_, by decide⟩, gd_new, by omega, hsz⟩, by omega, hb2.alloc (by simp; omega) _, h1, h2, Nat.le_refl _⟩
  rw [Below.heap_alloc _ _ _ (by simp)]
  exact hn1

end Go.Proofs.YtdmkbcbgjdmgdaaGreatDoor

namespace Go.Proofs.YtdmkbcbgjdmgdaaGreatDoor
open Go.RowKit
set_option linter.unusedVariables false

/-- What a node at the top, settled, tells. -/
theorem Gd.split {N : Nat} {T : Tb} {v : Nat → Int} {sub seq : Nat → List Nat} (h : Gd N T v sub seq) {x : Nat} (hx : x ≠ 0) (hu : (T x).up = 0) (ht : (T x).t = false) : seq x = sub (T x).l ++ x :: sub (T x).r := by
  have := h.inv.eqn x hx false
  rw [ht] at this
  rw [h.inv.root x hx hu]
  exact this

theorem cutS_nil {N : Nat} {T : Tb} {v : Nat → Int} {sub seq : Nat → List Nat} (h : Gd N T v sub seq) {x : Nat} {B : List Nat} (hx : x ≠ 0) (e : seq x = x :: B) : cutS seq [] x B = seq := by
  funext y
  unfold cutS
  rw [if_neg (by simp)]
  split
  · next hm => rw [← e] at hm ⊢; exact (h.mem_seq hx hm).1.symm
  · rfl

set_option maxRecDepth 100000 in
set_option maxHeartbeats 1000000 in
theorem FS.size_bad {lo fb n : Nat} {w w0 : World} {v : Nat → Int} {seq : Nat → List Nat} (h : FS lo w fb n v seq w0) (x : Int) (hx : ¬ (0 ≤ x ∧ x < (n : Int))) :
    Calls Tryz.prog 96 #[.pointer (some ⟨fb, 0, none⟩), .int .i64 x] w0 fun e w' => e = .returned (.tuple #[.int .i64 0, (.iface 63 (.int .i64 12))]) ∧ FS lo w fb n v seq w' ∧ Keep w0 w' := by
  have hb := hid (h.bad1 x hx)
  have ha := hid (h.alloc (.cells #[.int .i64 x] 3))
  have hk := hid ((Keep.refl w0).alloc (.cells #[.int .i64 x] 3))
  clear h hx
  go_enter Tryz.func96, Tryz.ntmps96
  go_wp2_with fail
  refine hb.out.mono ?_
  rintro e w' ⟨rfl, rfl⟩
  go_wp2_with fail
  go_ret2
  exact ⟨rfl, ha.out, hk.out⟩

set_option maxRecDepth 100000 in
set_option maxHeartbeats 1000000 in
theorem size_nil (x : Int) (w0 : World) :
    Calls Tryz.prog 96 #[.pointer none, .int .i64 x] w0 fun e w' => e = .returned (.tuple #[.int .i64 0, (.iface 63 (.int .i64 1))]) ∧ Below w0.heap.size w0 w' := by
  go_enter Tryz.func96, Tryz.ntmps96
  go_wp2_with fail
  refine (look_nil _ _).mono ?_
  rintro e w' ⟨rfl, rfl⟩
  go_wp2_with fail
  go_ret2
  exact ⟨rfl, (Below.refl _ _).alloc (Nat.le_refl _) _⟩

set_option maxRecDepth 100000 in
set_option maxHeartbeats 1000000 in
theorem FS.rank_bad {lo fb n : Nat} {w w0 : World} {v : Nat → Int} {seq : Nat → List Nat} (h : FS lo w fb n v seq w0) (x : Int) (hx : ¬ (0 ≤ x ∧ x < (n : Int))) :
    Calls Tryz.prog 132 #[.pointer (some ⟨fb, 0, none⟩), .int .i64 x] w0 fun e w' => e = .returned (.tuple #[.int .i64 0, (.iface 63 (.int .i64 12))]) ∧ FS lo w fb n v seq w' ∧ Keep w0 w' := by
  have hb := hid (h.bad1 x hx)
  have ha := hid (h.alloc (.cells #[.int .i64 x] 3))
  have hk := hid ((Keep.refl w0).alloc (.cells #[.int .i64 x] 3))
  clear h hx
  go_enter Tryz.func132, Tryz.ntmps132
  go_wp2_with fail
  refine hb.out.mono ?_
  rintro e w' ⟨rfl, rfl⟩
  go_wp2_with fail
  go_ret2
  exact ⟨rfl, ha.out, hk.out⟩

set_option maxRecDepth 100000 in
set_option maxHeartbeats 1000000 in
theorem rank_nil (x : Int) (w0 : World) :
    Calls Tryz.prog 132 #[.pointer none, .int .i64 x] w0 fun e w' => e = .returned (.tuple #[.int .i64 0, (.iface 63 (.int .i64 1))]) ∧ Below w0.heap.size w0 w' := by
  go_enter Tryz.func132, Tryz.ntmps132
  go_wp2_with fail
  refine (look_nil _ _).mono ?_
  rintro e w' ⟨rfl, rfl⟩
  go_wp2_with fail
  go_ret2
  exact ⟨rfl, (Below.refl _ _).alloc (Nat.le_refl _) _⟩





set_option maxRecDepth 100000 in
set_option maxHeartbeats 1000000 in
theorem FS.cut_bad {lo fb n : Nat} {w w0 : World} {v : Nat → Int} {seq : Nat → List Nat} (h : FS lo w fb n v seq w0) (x : Int) (hx : ¬ (0 ≤ x ∧ x < (n : Int))) :
    Calls Tryz.prog 85 #[.pointer (some ⟨fb, 0, none⟩), .int .i64 x] w0 fun e w' => e = .returned (.tuple #[.bool false, (.iface 63 (.int .i64 12))]) ∧ FS lo w fb n v seq w' ∧ Keep w0 w' := by
  have hb := hid (h.bad1 x hx)
  have ha := hid (h.alloc (.cells #[.int .i64 x] 3))
  have hk := hid ((Keep.refl w0).alloc (.cells #[.int .i64 x] 3))
  clear h hx
  go_enter Tryz.func85, Tryz.ntmps85
  go_wp2_with fail
  refine hb.out.mono ?_
  rintro e w' ⟨rfl, rfl⟩
  go_wp2_with fail
  go_ret2
  exact ⟨rfl, ha.out, hk.out⟩

set_option maxRecDepth 100000 in
set_option maxHeartbeats 1000000 in
theorem cut_nil (x : Int) (w0 : World) :
    Calls Tryz.prog 85 #[.pointer none, .int .i64 x] w0 fun e w' => e = .returned (.tuple #[.bool false, (.iface 63 (.int .i64 1))]) ∧ Below w0.heap.size w0 w' := by
  go_enter Tryz.func85, Tryz.ntmps85
  go_wp2_with fail
  refine (look_nil _ _).mono ?_
  rintro e w' ⟨rfl, rfl⟩
  go_wp2_with fail
  go_ret2
  exact ⟨rfl, (Below.refl _ _).alloc (Nat.le_refl _) _⟩









set_option maxRecDepth 100000 in
set_option maxHeartbeats 1000000 in
theorem FS.same_bad {lo fb n : Nat} {w w0 : World} {v : Nat → Int} {seq : Nat → List Nat} (h : FS lo w fb n v seq w0) (x y : Int) (hx : ¬ ((0 ≤ x ∧ x < (n : Int)) ∧ (0 ≤ y ∧ y < (n : Int)))) :
    Calls Tryz.prog 71 #[.pointer (some ⟨fb, 0, none⟩), .int .i64 x, .int .i64 y] w0 fun e w' => e = .returned (.tuple #[.bool false, (.iface 63 (.int .i64 12))]) ∧ FS lo w fb n v seq w' ∧ Keep w0 w' := by
  have hb := hid (h.bad2 x y hx)
  have ha := hid (h.alloc (.cells #[.int .i64 x, .int .i64 y] 3))
  have hk := hid ((Keep.refl w0).alloc (.cells #[.int .i64 x, .int .i64 y] 3))
  clear h hx
  go_enter Tryz.func71, Tryz.ntmps71
  go_wp2_with fail
  refine hb.out.mono ?_
  rintro e w' ⟨rfl, rfl⟩
  go_wp2_with fail
  go_ret2
  exact ⟨rfl, ha.out, hk.out⟩

set_option maxRecDepth 100000 in
set_option maxHeartbeats 1000000 in
theorem same_nil (x y : Int) (w0 : World) :
    Calls Tryz.prog 71 #[.pointer none, .int .i64 x, .int .i64 y] w0 fun e w' => e = .returned (.tuple #[.bool false, (.iface 63 (.int .i64 1))]) ∧ Below w0.heap.size w0 w' := by
  go_enter Tryz.func71, Tryz.ntmps71
  go_wp2_with fail
  refine (look_nil _ _).mono ?_
  rintro e w' ⟨rfl, rfl⟩
  go_wp2_with fail
  go_ret2
  exact ⟨rfl, (Below.refl _ _).alloc (Nat.le_refl _) _⟩

set_option maxRecDepth 100000 in
set_option maxHeartbeats 1000000 in
theorem FS.sizeH {lo fb n : Nat} {w w0 : World} {v : Nat → Int} {seq : Nat → List Nat} (h : FS lo w fb n v seq w0) (x : Nat) (hx : x < n) :
    Calls Tryz.prog 96 #[.pointer (some ⟨fb, 0, none⟩), .int .i64 (x : Int)] w0 fun e w' => e = .returned (.tuple #[.int .i64 ((seq (x + 1)).length : Int), .nilIface]) ∧ ∃ nb N T sub, HS lo w w0 fb n nb N T v sub seq w' ∧ x + 1 < N := by
  have hl := hid (h.look1 x hx)
  clear h
  go_enter Tryz.func96, Tryz.ntmps96
  go_wp2_with fail
  refine hl.out.mono ?_
  rintro e w1 ⟨rfl, nb, N, T, sub, h1, hxN⟩
  have h1 := hid h1
  clear hl
  go_wp2_with fail
  refine (h1.out.top x hxN).mono ?_
  rintro e w2 ⟨rfl, T2, sub2, h2, m2, u2, t2⟩
  have h2 := hid h2
  have m2 := hid m2
  have u2 := hid u2
  have t2 := hid t2
  clear h1
  rw [show ((x + 1 : Nat) : Int) = ((x + 1 : Nat) : Int) from rfl]
  obtain ⟨X, hX⟩ : ∃ X, x + 1 = X := ⟨_, rfl⟩
  have hXh := hid hX
  rw [hX] at hxN u2 t2 m2
  rw [hX]
  have hX0 : X ≠ 0 := by omega
  clear hX
  go_wp2_with fail
  refine (size_ok fb nb n N X T2 v sub2 seq _ h2.out.fo h2.out.gd hxN).mono ?_
  rintro e w3 ⟨rfl, rfl⟩
  have e1 := hid (h2.out.gd.inv.root X hX0 u2.out)
  go_wp2_with fail
  go_ret2
  exact ⟨by rw [hXh.out, e1.out]; rfl, nb, N, T2, sub2, h2.out, by rw [hXh.out]; exact hxN⟩

theorem FS.size {lo fb n : Nat} {w w0 : World} {v : Nat → Int} {seq : Nat → List Nat} (h : FS lo w fb n v seq w0) (x : Nat) (hx : x < n) :
    Calls Tryz.prog 96 #[.pointer (some ⟨fb, 0, none⟩), .int .i64 (x : Int)] w0 fun e w' => e = .returned (.tuple #[.int .i64 ((seq (x + 1)).length : Int), .nilIface]) ∧ FS lo w fb n v seq w' ∧ Keep w0 w' := by
  refine (h.sizeH x hx).mono ?_
  rintro e w' ⟨rfl, nb, N, T, sub, h1, _⟩
  exact ⟨rfl, h1.end_, h1.keep⟩

set_option maxRecDepth 100000 in
set_option maxHeartbeats 1000000 in
theorem FS.rank {lo fb n : Nat} {w w0 : World} {v : Nat → Int} {seq : Nat → List Nat} (h : FS lo w fb n v seq w0) (x : Nat) (hx : x < n) :
    Calls Tryz.prog 132 #[.pointer (some ⟨fb, 0, none⟩), .int .i64 (x : Int)] w0 fun e w' => ∃ A B, seq (x + 1) = A ++ (x + 1) :: B ∧ e = .returned (.tuple #[.int .i64 (A.length : Int), .nilIface]) ∧ FS lo w fb n v seq w' ∧ Keep w0 w' := by
  have hl := hid (h.look1 x hx)
  clear h
  go_enter Tryz.func132, Tryz.ntmps132
  go_wp2_with fail
  refine hl.out.mono ?_
  rintro e w1 ⟨rfl, nb, N, T, sub, h1, hxN⟩
  have h1 := hid h1
  clear hl
  go_wp2_with fail
  refine (h1.out.top x hxN).mono ?_
  rintro e w2 ⟨rfl, T2, sub2, h2, m2, u2, t2⟩
  have h2 := hid h2
  have m2 := hid m2
  have u2 := hid u2
  have t2 := hid t2
  clear h1
  rw [show ((x + 1 : Nat) : Int) = ((x + 1 : Nat) : Int) from rfl]
  obtain ⟨X, hX⟩ : ∃ X, x + 1 = X := ⟨_, rfl⟩
  have hXh := hid hX
  rw [hX] at hxN u2 t2 m2
  rw [hX]
  have hX0 : X ≠ 0 := by omega
  clear hX
  go_wp2_with fail
  refine (leads_ok fb nb n N X T2 v sub2 seq _ h2.out.fo h2.out.gd hxN).mono ?_
  rintro e w3 ⟨rfl, rfl⟩
  have e1 := hid (h2.out.gd.split hX0 u2.out t2.out)
  go_wp2_with fail
  go_ret2
  exact ⟨_, _, by rw [hXh.out]; exact e1.out, rfl, h2.out.end_, h2.out.keep⟩

set_option maxRecDepth 100000 in
set_option maxHeartbeats 1000000 in
theorem FS.cut {lo fb n : Nat} {w w0 : World} {v : Nat → Int} {seq : Nat → List Nat} (h : FS lo w fb n v seq w0) (x : Nat) (hx : x < n) :
    Calls Tryz.prog 85 #[.pointer (some ⟨fb, 0, none⟩), .int .i64 (x : Int)] w0 fun e w' => ∃ A B, seq (x + 1) = A ++ (x + 1) :: B ∧ e = .returned (.tuple #[.bool (!A.isEmpty), .nilIface]) ∧ FS lo w fb n v (cutS seq A (x + 1) B) w' ∧ Keep w0 w' := by
  have hl := hid (h.look1 x hx)
  clear h
  go_enter Tryz.func85, Tryz.ntmps85
  go_wp2_with fail
  refine hl.out.mono ?_
  rintro e w1 ⟨rfl, nb, N, T, sub, h1, hxN⟩
  have h1 := hid h1
  clear hl
  go_wp2_with fail
  refine (h1.out.top x hxN).mono ?_
  rintro e w2 ⟨rfl, T2, sub2, h2, m2, u2, t2⟩
  have h2 := hid h2
  have m2 := hid m2
  have u2 := hid u2
  have t2 := hid t2
  clear h1
  rw [show ((x + 1 : Nat) : Int) = ((x + 1 : Nat) : Int) from rfl]
  obtain ⟨X, hX⟩ : ∃ X, x + 1 = X := ⟨_, rfl⟩
  have hXh := hid hX
  rw [hX] at hxN u2 t2 m2
  rw [hX]
  have hX0 : X ≠ 0 := by omega
  clear hX
  have e1 := hid (h2.out.gd.split hX0 u2.out t2.out)
  by_cases hL : (T2 X).l = 0
  · go_wp2_with fail
    refine (shed_no fb nb n N X T2 _ h2.out.fo hxN hL).mono ?_
    rintro e w3 ⟨rfl, rfl⟩
    have hLh := hid hL
    clear hL
    go_wp2_with fail
    go_ret2
    have e2 := e1.out
    rw [hLh.out, h2.out.gd.inv.sub0] at e2
    refine ⟨[], _, by rw [hXh.out]; exact e2, rfl, ?_, h2.out.keep⟩
    rw [hXh.out, cutS_nil h2.out.gd hX0 e2]
    exact h2.out.end_
  · have hLN := h2.out.gd.l_lt X
    have i2 := h2.out.gd.inv
    obtain ⟨sub3, g3⟩ := h2.out.gd.shed hX0 u2.out t2.out hxN rfl rfl hL
    have g3 := hid g3
    have hLh := hid hL
    have nl := hid (i2.kid_ne hX0 false)
    have nr := hid (i2.kid_ne hX0 true)
    clear hL i2
    go_wp2_with fail
    refine (shed_yes fb nb n N X _ T2 _ h2.out.fo hxN rfl hLh.out hLN nl.out (h2.out.gd.r_lt X) nr.out hX0).mono ?_
    rintro e w3 ⟨rfl, f3, t3⟩
    have h3 := hid (h2.out.turn f3 g3.out t3)
    clear f3 t3
    go_wp2_with fail
    go_ret2
    refine ⟨_, _, by rw [hXh.out]; exact e1.out, ?_, by rw [hXh.out]; exact h3.out.end_, h3.out.keep⟩
    have : (sub2 (T2 X).l).isEmpty = false := by
      have := h2.out.gd.inv.self hLh.out
      cases hs : sub2 (T2 X).l with
      | nil => rw [hs] at this; cases this
      | cons _ _ => rfl
    rw [this]; rfl





set_option maxRecDepth 100000 in
set_option maxHeartbeats 1000000 in
theorem FS.sameH {lo fb n : Nat} {w w0 : World} {v : Nat → Int} {seq : Nat → List Nat} (h : FS lo w fb n v seq w0) (x y : Nat) (hx : x < n) (hy : y < n) :
    Calls Tryz.prog 71 #[.pointer (some ⟨fb, 0, none⟩), .int .i64 (x : Int), .int .i64 (y : Int)] w0 fun e w' => e = .returned (.tuple #[.bool (decide (seq (x + 1) = seq (y + 1))), .nilIface]) ∧ ∃ nb N T sub, HS lo w w0 fb n nb N T v sub seq w' ∧ x + 1 < N ∧ y + 1 < N := by
  have hl := hid (h.look2 x y hx hy)
  clear h
  go_enter Tryz.func71, Tryz.ntmps71
  go_wp2_with fail
  refine hl.out.mono ?_
  rintro e w1 ⟨rfl, nb, N, T, sub, h1, hxN, hyN⟩
  have h1 := hid h1
  clear hl
  go_wp2_with fail
  refine (h1.out.top x hxN).mono ?_
  rintro e w2 ⟨rfl, T2, sub2, h2, m2, u2, t2⟩
  have h2 := hid h2
  have u2 := hid u2
  clear h1 m2 t2
  obtain ⟨X, hX⟩ : ∃ X, x + 1 = X := ⟨_, rfl⟩
  obtain ⟨Y, hY⟩ : ∃ Y, y + 1 = Y := ⟨_, rfl⟩
  have hXY := hid (And.intro hX hY)
  have htop := hid (h2.out.top y hyN)
  rw [hX] at hxN u2
  rw [hY] at hyN htop
  rw [hX]
  have hX0 : X ≠ 0 := by omega
  have hY0 : Y ≠ 0 := by omega
  have q1 : (0 : Int) ≤ (X : Int) := by omega
  have q2 : (X : Int) < (N : Int) := by omega
  have hbig := h2.out.fo.big
  clear hX hY
  go_wp2_with fail
  refine htop.out.mono ?_
  rintro e w3 ⟨rfl, T3, sub3, h3, m3, u3, t3⟩
  have h3 := hid h3
  have m3 := hid m3
  have u3 := hid u3
  by_cases e1 : X = Y
  · subst e1
    clear htop t3
    go_wp2_with fail
    go_ret2
    exact ⟨by rw [hXY.out.1, hXY.out.2]; simp, nb, N, T3, sub3, h3.out, by rw [hXY.out.1]; exact hxN, by rw [hXY.out.2]; exact hyN⟩
  · have tt : ((X : Int) == (Y : Int)) = false := by simp; omega
    have c1 := h3.out.fo.c1
    have cu := h3.out.fo.up hxN
    by_cases e2 : seq X = seq Y
    · have hu : (T3 X).up ≠ 0 := by
        have hm : X ∈ sub3 Y := by
          rw [← h3.out.gd.inv.root Y hY0 u3.out, ← e2]
          exact h3.out.gd.self hX0
        exact h3.out.gd.inv.sub_up hY0 hm e1
      obtain ⟨U, hU⟩ : ∃ U, (T3 X).up = U := ⟨_, rfl⟩
      rw [hU] at hu cu
      have tu : ((U : Int) != 0) = true := by simp; omega
      have e2h := hid e2
      clear htop t3 hU e1 e2
      go_wp2_with fail
      go_ret2
      exact ⟨by rw [hXY.out.1, hXY.out.2, decide_eq_true e2h.out]; rfl, nb, N, T3, sub3, h3.out, by rw [hXY.out.1]; exact hxN, by rw [hXY.out.2]; exact hyN⟩
    · have hu : (T3 X).up = 0 := by rw [(m3.out.fr X (fun _ => e2)).1]; exact u2.out
      rw [hu] at cu
      have e2h := hid e2
      clear htop t3 hu e1 e2
      go_wp2_with fail
      go_ret2
      exact ⟨by rw [hXY.out.1, hXY.out.2, decide_eq_false e2h.out]; rfl, nb, N, T3, sub3, h3.out, by rw [hXY.out.1]; exact hxN, by rw [hXY.out.2]; exact hyN⟩

theorem FS.same {lo fb n : Nat} {w w0 : World} {v : Nat → Int} {seq : Nat → List Nat} (h : FS lo w fb n v seq w0) (x y : Nat) (hx : x < n) (hy : y < n) :
    Calls Tryz.prog 71 #[.pointer (some ⟨fb, 0, none⟩), .int .i64 (x : Int), .int .i64 (y : Int)] w0 fun e w' => e = .returned (.tuple #[.bool (decide (seq (x + 1) = seq (y + 1))), .nilIface]) ∧ FS lo w fb n v seq w' ∧ Keep w0 w' := by
  refine (h.sameH x y hx hy).mono ?_
  rintro e w' ⟨rfl, nb, N, T, sub, h1, _⟩
  exact ⟨rfl, h1.end_, h1.keep⟩



end Go.Proofs.YtdmkbcbgjdmgdaaGreatDoor

namespace Go.Proofs.YtdmkbcbgjdmgdaaGreatDoor
open Go.RowKit
set_option linter.unusedVariables false

/-- How much is beneath a node that a slot names. -/
def ml (nb : Nat) (a : Value) (w : World) : Nat := match w.cell? ⟨nb, (intOf a).toNat * 9 + 4, none⟩ with
  | some (.int _ k) => (k + 1).toNat
  | _ => 0

theorem ml_is {fb nb n N x : Nat} {T : Tb} {v : Nat → Int} {sub seq : Nat → List Nat} {w : World} (h : Fo w fb nb n N T) (hG : Gd N T v sub seq) (hx : x < N) : ml nb (.int .i32 (x : Int)) w = (sub x).length := by
  unfold ml
  rw [show (intOf (.int .i32 (x : Int))).toNat = x from by simp [intOf], h.rest hx]
  have := (hG.inv.tal x).rest
  dsimp only
  omega

set_option maxRecDepth 100000 in
set_option maxHeartbeats 1000000 in
theorem descend_to (c1 : Value) (fb nb n N : Nat) (v : Nat → Int) (seq : Nat → List Nat) (lo : Nat) (w w0 : World) (J Fin : Tb → (Nat → List Nat) → Nat → World → Prop)
    (hset : ∀ T sub T' sub' x y y', HS lo w w0 fb n nb N T v sub seq y → J T sub x y → x ≠ 0 → Mv N v seq x T sub T' sub' → Stl x T sub T' sub' → Turned (fun k => k = nb) y y' → HS lo w w0 fb n nb N T' v sub' seq y' → J T' sub' x y')
    (hcall : ∀ T sub x y, HS lo w w0 fb n nb N T v sub seq y → J T sub x y → x ≠ 0 → x < N → (T x).t = false → Calls Tryz.prog 128 #[.int .i32 (x : Int), c1] y fun e w' => ∃ c : Int, e = .returned (.int .i64 c) ∧ HS lo w w0 fb n nb N T v sub seq w' ∧ ((c = 2 ∧ Fin T sub x w') ∨ (∃ s : Bool, c = sI s ∧ ((T x).k s = 0 → Fin T sub x w') ∧ ((T x).k s ≠ 0 → J T sub ((T x).k s) w'))))
    (x : Nat) (T : Tb) (sub : Nat → List Nat) (wr : World) (h : HS lo w w0 fb n nb N T v sub seq wr) (hx0 : x ≠ 0) (hx : x < N) (hJ : J T sub x wr) :
    Calls Tryz.prog 104 #[.pointer (some ⟨fb, 0, none⟩), .int .i32 (x : Int), .func (.func 128) #[] #[c1]] wr fun e w' => ∃ (x' : Nat) (T' : Tb) (sub' : Nat → List Nat), e = .returned (.int .i32 (x' : Int)) ∧ x' ≠ 0 ∧ x' < N ∧ HS lo w w0 fb n nb N T' v sub' seq w' ∧ (T' x').t = false ∧ Fin T' sub' x' w' := by
  have hbig := h.fo.big
  have hset := hid hset
  have hcall := hid hcall
  have st : Hid (∃ T1 sub1, x ≠ 0 ∧ x < N ∧ HS lo w w0 fb n nb N T1 v sub1 seq wr ∧ J T1 sub1 x wr) := ⟨T, sub, hx0, hx, h, hJ⟩
  clear h hx0 hx hJ
  go_enter Tryz.func104, Tryz.ntmps104
  go_wp2_with fail
  go_loopw [1, 7] (fun a _ wr => ∃ x : Nat, a = .int .i32 (x : Int) ∧ Hid (∃ T1 sub1, x ≠ 0 ∧ x < N ∧ HS lo w w0 fb n nb N T1 v sub1 seq wr ∧ J T1 sub1 x wr)) (fun a _ wr => ml nb a wr)
  case atStart => exact ⟨x, rfl, st⟩
  case round =>
    clear st
    obtain ⟨x, rfl, hst⟩ := hrel
    obtain ⟨T1, sub1, hx0, hx, h1, hJ⟩ := hst.out
    have hms := hid (ml_is h1.fo h1.gd hx)
    have q1 : (0 : Int) ≤ (x : Int) := by omega
    have q2 : (x : Int) < (N : Int) := by omega
    have h1 := hid h1
    have hJ := hid hJ
    have hx0 := hid hx0
    clear hst
    go_wp2_with fail
    refine (settle_gd fb nb n N x T1 v sub1 seq _ h1.out.fo h1.out.gd hx).mono ?_
    rintro e w2 ⟨rfl, T2, sub2, f2, m2, s2, t2⟩
    have h2 := hid (h1.out.turn f2 m2.gd t2)
    have hJ2 := hid (hset.out T1 sub1 T2 sub2 x _ _ h1.out hJ.out hx0.out m2 s2 t2 h2.out)
    have hlen := hid (s2.len x)
    have htt := hid s2.t
    clear f2 m2 s2 t2 h1 hJ
    go_wp2_with fail
    refine (hcall.out T2 sub2 x _ h2.out hJ2.out hx0.out hx htt.out).mono ?_
    rintro e w3 ⟨c, rfl, h3, hc⟩
    have h3 := hid h3
    have c1 := h3.out.fo.c1
    have cl := h3.out.fo.l hx
    have cr : w3.cell? ⟨nb, x * 9 + 6 + 1, none⟩ = some (.int .i32 ((T2 x).r : Int)) := h3.out.fo.r hx
    clear h2 hJ2
    rcases hc with ⟨rfl, hF⟩ | ⟨s, rfl, hF, hG⟩
    · have hF := hid hF
      clear c1 cl cr
      go_wp2_with fail
      go_ret
      exact ⟨x, T2, sub2, rfl, hx0.out, hx, h3.out, htt.out, hF.out⟩
    · have hFh := hid hF
      have hGh := hid hG
      clear hF hG
      obtain ⟨K, hK⟩ : ∃ K, (T2 x).k s = K := ⟨_, rfl⟩
      have hKN := h3.out.gd.k_lt x s
      have hlt := h3.out.gd.inv.kid_lt hx0.out s
      rw [hK] at hKN hlt hFh hGh
      cases s
      all_goals
        first | rw [show sI false = 0 from rfl] | rw [show sI true = 1 from rfl]
        first | rw [show (T2 x).l = K from hK] at cl | rw [show (T2 x).r = K from hK] at cr
        by_cases hK0 : K = 0
        · subst hK0
          have fin := hid (hFh.out rfl)
          clear hFh hGh hK
          go_wp2_with fail
          go_ret
          exact ⟨x, T2, sub2, rfl, hx0.out, hx, h3.out, htt.out, fin.out⟩
        · have tk : ((K : Int) == 0) = false := by simp; omega
          have hJ3 := hid (hGh.out hK0)
          have hK0h := hid hK0
          have hms2 := hid (ml_is h3.out.fo h3.out.gd hKN)
          have hlt := hid hlt
          clear hFh hGh hK hK0
          go_wp2_with fail
          go_roundw
          case rel => exact ⟨K, rfl, ⟨T2, sub2, hK0h.out, hKN, h3.out, hJ3.out⟩⟩
          case measure => rw [hms2.out, hms.out]; have := hlt.out; have := hlen.out; omega

set_option maxRecDepth 100000 in
set_option maxHeartbeats 1000000 in
theorem seek_to (c1 : Value) (fb nb n N : Nat) (v : Nat → Int) (seq : Nat → List Nat) (lo : Nat) (w w0 : World) (Fin : Tb → (Nat → List Nat) → Nat → World → Prop) (x : Nat) (wr : World)
    (hd : Calls Tryz.prog 104 #[.pointer (some ⟨fb, 0, none⟩), .int .i32 (x : Int), .func (.func 128) #[] #[c1]] wr fun e w' => ∃ (x' : Nat) (T' : Tb) (sub' : Nat → List Nat), e = .returned (.int .i32 (x' : Int)) ∧ x' ≠ 0 ∧ x' < N ∧ HS lo w w0 fb n nb N T' v sub' seq w' ∧ (T' x').t = false ∧ Fin T' sub' x' w') :
    Calls Tryz.prog 116 #[.pointer (some ⟨fb, 0, none⟩), .int .i32 (x : Int), .func (.func 128) #[] #[c1]] wr fun e w' => ∃ (x' : Nat) (T' : Tb) (sub' : Nat → List Nat), e = .returned (.int .i32 (x' : Int)) ∧ x' ≠ 0 ∧ x' < N ∧ HS lo w w0 fb n nb N T' v sub' seq w' ∧ (T' x').up = 0 ∧ (T' x').t = false ∧ (∃ T1 sub1 w1, Fin T1 sub1 x' w1) := by
  have hd := hid hd
  go_enter Tryz.func116, Tryz.ntmps116
  go_wp2_with fail
  refine hd.out.mono ?_
  rintro e w2 ⟨x', T2, sub2, rfl, hx0, hx, h2, t2, hF⟩
  have h2 := hid h2
  have hF := hid hF
  have hx0 := hid hx0
  clear hd t2
  go_wp2_with fail
  refine (h2.out.raise x' hx0.out hx).mono ?_
  rintro e w3 ⟨rfl, T3, sub3, h3, m3, u3, t3⟩
  have fin := hid (And.intro h3 (And.intro u3 t3))
  clear h3 m3 u3 t3
  go_wp2_with fail
  go_ret
  exact ⟨x', T3, sub3, rfl, hx0.out, hx, fin.out.1, fin.out.2.1, fin.out.2.2, T2, sub2, w2, hF.out⟩

set_option maxRecDepth 100000 in
set_option maxHeartbeats 1000000 in
theorem descend_at (c1 c2 : Value) (fb nb n N : Nat) (v : Nat → Int) (seq : Nat → List Nat) (lo : Nat) (w w0 : World) (J Fin : Tb → (Nat → List Nat) → Nat → World → Prop)
    (hset : ∀ T sub T' sub' x y y', HS lo w w0 fb n nb N T v sub seq y → J T sub x y → x ≠ 0 → Mv N v seq x T sub T' sub' → Stl x T sub T' sub' → Turned (fun k => k = nb) y y' → HS lo w w0 fb n nb N T' v sub' seq y' → J T' sub' x y')
    (hcall : ∀ T sub x y, HS lo w w0 fb n nb N T v sub seq y → J T sub x y → x ≠ 0 → x < N → (T x).t = false → Calls Tryz.prog 130 #[.int .i32 (x : Int), c1, c2] y fun e w' => ∃ c : Int, e = .returned (.int .i64 c) ∧ HS lo w w0 fb n nb N T v sub seq w' ∧ ((c = 2 ∧ Fin T sub x w') ∨ (∃ s : Bool, c = sI s ∧ ((T x).k s = 0 → Fin T sub x w') ∧ ((T x).k s ≠ 0 → J T sub ((T x).k s) w'))))
    (x : Nat) (T : Tb) (sub : Nat → List Nat) (wr : World) (h : HS lo w w0 fb n nb N T v sub seq wr) (hx0 : x ≠ 0) (hx : x < N) (hJ : J T sub x wr) :
    Calls Tryz.prog 104 #[.pointer (some ⟨fb, 0, none⟩), .int .i32 (x : Int), .func (.func 130) #[] #[c1, c2]] wr fun e w' => ∃ (x' : Nat) (T' : Tb) (sub' : Nat → List Nat), e = .returned (.int .i32 (x' : Int)) ∧ x' ≠ 0 ∧ x' < N ∧ HS lo w w0 fb n nb N T' v sub' seq w' ∧ (T' x').t = false ∧ Fin T' sub' x' w' := by
  have hbig := h.fo.big
  have hset := hid hset
  have hcall := hid hcall
  have st : Hid (∃ T1 sub1, x ≠ 0 ∧ x < N ∧ HS lo w w0 fb n nb N T1 v sub1 seq wr ∧ J T1 sub1 x wr) := ⟨T, sub, hx0, hx, h, hJ⟩
  clear h hx0 hx hJ
  go_enter Tryz.func104, Tryz.ntmps104
  go_wp2_with fail
  go_loopw [1, 7] (fun a _ wr => ∃ x : Nat, a = .int .i32 (x : Int) ∧ Hid (∃ T1 sub1, x ≠ 0 ∧ x < N ∧ HS lo w w0 fb n nb N T1 v sub1 seq wr ∧ J T1 sub1 x wr)) (fun a _ wr => ml nb a wr)
  case atStart => exact ⟨x, rfl, st⟩
  case round =>
    clear st
    obtain ⟨x, rfl, hst⟩ := hrel
    obtain ⟨T1, sub1, hx0, hx, h1, hJ⟩ := hst.out
    have hms := hid (ml_is h1.fo h1.gd hx)
    have q1 : (0 : Int) ≤ (x : Int) := by omega
    have q2 : (x : Int) < (N : Int) := by omega
    have h1 := hid h1
    have hJ := hid hJ
    have hx0 := hid hx0
    clear hst
    go_wp2_with fail
    refine (settle_gd fb nb n N x T1 v sub1 seq _ h1.out.fo h1.out.gd hx).mono ?_
    rintro e w2 ⟨rfl, T2, sub2, f2, m2, s2, t2⟩
    have h2 := hid (h1.out.turn f2 m2.gd t2)
    have hJ2 := hid (hset.out T1 sub1 T2 sub2 x _ _ h1.out hJ.out hx0.out m2 s2 t2 h2.out)
    have hlen := hid (s2.len x)
    have htt := hid s2.t
    clear f2 m2 s2 t2 h1 hJ
    go_wp2_with fail
    refine (hcall.out T2 sub2 x _ h2.out hJ2.out hx0.out hx htt.out).mono ?_
    rintro e w3 ⟨c, rfl, h3, hc⟩
    have h3 := hid h3
    have c1 := h3.out.fo.c1
    have cl := h3.out.fo.l hx
    have cr : w3.cell? ⟨nb, x * 9 + 6 + 1, none⟩ = some (.int .i32 ((T2 x).r : Int)) := h3.out.fo.r hx
    clear h2 hJ2
    rcases hc with ⟨rfl, hF⟩ | ⟨s, rfl, hF, hG⟩
    · have hF := hid hF
      clear c1 cl cr
      go_wp2_with fail
      go_ret
      exact ⟨x, T2, sub2, rfl, hx0.out, hx, h3.out, htt.out, hF.out⟩
    · have hFh := hid hF
      have hGh := hid hG
      clear hF hG
      obtain ⟨K, hK⟩ : ∃ K, (T2 x).k s = K := ⟨_, rfl⟩
      have hKN := h3.out.gd.k_lt x s
      have hlt := h3.out.gd.inv.kid_lt hx0.out s
      rw [hK] at hKN hlt hFh hGh
      cases s
      all_goals
        first | rw [show sI false = 0 from rfl] | rw [show sI true = 1 from rfl]
        first | rw [show (T2 x).l = K from hK] at cl | rw [show (T2 x).r = K from hK] at cr
        by_cases hK0 : K = 0
        · subst hK0
          have fin := hid (hFh.out rfl)
          clear hFh hGh hK
          go_wp2_with fail
          go_ret
          exact ⟨x, T2, sub2, rfl, hx0.out, hx, h3.out, htt.out, fin.out⟩
        · have tk : ((K : Int) == 0) = false := by simp; omega
          have hJ3 := hid (hGh.out hK0)
          have hK0h := hid hK0
          have hms2 := hid (ml_is h3.out.fo h3.out.gd hKN)
          have hlt := hid hlt
          clear hFh hGh hK hK0
          go_wp2_with fail
          go_roundw
          case rel => exact ⟨K, rfl, ⟨T2, sub2, hK0h.out, hKN, h3.out, hJ3.out⟩⟩
          case measure => rw [hms2.out, hms.out]; have := hlt.out; have := hlen.out; omega

set_option maxRecDepth 100000 in
set_option maxHeartbeats 1000000 in
theorem seek_at (c1 c2 : Value) (fb nb n N : Nat) (v : Nat → Int) (seq : Nat → List Nat) (lo : Nat) (w w0 : World) (Fin : Tb → (Nat → List Nat) → Nat → World → Prop) (x : Nat) (wr : World)
    (hd : Calls Tryz.prog 104 #[.pointer (some ⟨fb, 0, none⟩), .int .i32 (x : Int), .func (.func 130) #[] #[c1, c2]] wr fun e w' => ∃ (x' : Nat) (T' : Tb) (sub' : Nat → List Nat), e = .returned (.int .i32 (x' : Int)) ∧ x' ≠ 0 ∧ x' < N ∧ HS lo w w0 fb n nb N T' v sub' seq w' ∧ (T' x').t = false ∧ Fin T' sub' x' w') :
    Calls Tryz.prog 116 #[.pointer (some ⟨fb, 0, none⟩), .int .i32 (x : Int), .func (.func 130) #[] #[c1, c2]] wr fun e w' => ∃ (x' : Nat) (T' : Tb) (sub' : Nat → List Nat), e = .returned (.int .i32 (x' : Int)) ∧ x' ≠ 0 ∧ x' < N ∧ HS lo w w0 fb n nb N T' v sub' seq w' ∧ (T' x').up = 0 ∧ (T' x').t = false ∧ (∃ T1 sub1 w1, Fin T1 sub1 x' w1) := by
  have hd := hid hd
  go_enter Tryz.func116, Tryz.ntmps116
  go_wp2_with fail
  refine hd.out.mono ?_
  rintro e w2 ⟨x', T2, sub2, rfl, hx0, hx, h2, t2, hF⟩
  have h2 := hid h2
  have hF := hid hF
  have hx0 := hid hx0
  clear hd t2
  go_wp2_with fail
  refine (h2.out.raise x' hx0.out hx).mono ?_
  rintro e w3 ⟨rfl, T3, sub3, h3, m3, u3, t3⟩
  have fin := hid (And.intro h3 (And.intro u3 t3))
  clear h3 m3 u3 t3
  go_wp2_with fail
  go_ret
  exact ⟨x', T3, sub3, rfl, hx0.out, hx, fin.out.1, fin.out.2.1, fin.out.2.2, T2, sub2, w2, hF.out⟩





end Go.Proofs.YtdmkbcbgjdmgdaaGreatDoor

namespace Go.Proofs.YtdmkbcbgjdmgdaaGreatDoor
open Go.RowKit
set_option linter.unusedVariables false

/-- The closure that leads to one end: its box. -/
def Box (w : World) (b : Nat) (s : Bool) : Prop := w.heap[b]? = some (.cells #[.int .i64 (sI s)] 153 (0, 0))

theorem Box.of {w w' : World} {b : Nat} {s : Bool} {fb nb n N : Nat} {T : Tb} (h : Box w b s) (hf : Fo w fb nb n N T) (ht : Turned (fun k => k = nb) w w') : Box w' b s :=
  Keep.ofNodes hf ht b _ _ _ h (by decide) (by decide)

set_option maxRecDepth 100000 in
set_option maxHeartbeats 1000000 in
theorem toward_ok (s : Bool) (w : World) : Calls Tryz.prog 105 #[.int .i64 (sI s)] w fun e w' => e = .returned (.func (.func 128) #[] #[.pointer (some ⟨w.heap.size, 0, none⟩)]) ∧ w' = w.alloc (.cells #[.int .i64 (sI s)] 153) := by
  generalize sI s = c
  go_enter Tryz.func105, Tryz.ntmps105
  go_wp2_with fail
  go_ret
  exact ⟨rfl, rfl⟩

set_option maxRecDepth 100000 in
set_option maxHeartbeats 1000000 in
theorem toward1_ok (s : Bool) (x b : Nat) (w : World) (h : Box w b s) : Calls Tryz.prog 128 #[.int .i32 (x : Int), .pointer (some ⟨b, 0, none⟩)] w fun e w' => e = .returned (.int .i64 (sI s)) ∧ w = w' := by
  have hc : w.cell? ⟨b, 0, none⟩ = some (.int .i64 (sI s)) := by unfold World.cell?; rw [h]; simp
  clear h
  generalize sI s = c at hc ⊢
  go_enter Tryz.func128, Tryz.ntmps128
  go_wp2_with fail
  go_ret
  exact ⟨rfl, rfl⟩

theorem Inv.up_ne {T : Tb} {v : Nat → Int} {sub seq : Nat → List Nat} (h : Inv T v sub seq) {x : Nat} (hx : x ≠ 0) : (T x).up ≠ x := fun e => by
  have := h.up_lt hx (by rw [e]; exact hx)
  rw [e] at this
  omega

theorem Stl.self {x : Nat} {T T' : Tb} {sub sub' : Nat → List Nat} {v : Nat → Int} {seq : Nat → List Nat} (s : Stl x T sub T' sub') (h : Inv T v sub seq) (hx : x ≠ 0) : sub' x = sub x := s.s x (fun _ => h.up_ne hx)

/-- A node that is settled, its list. -/
theorem Inv.flat {T : Tb} {v : Nat → Int} {sub seq : Nat → List Nat} (h : Inv T v sub seq) {x : Nat} (hx : x ≠ 0) (ht : (T x).t = false) : sub x = sub ((T x).k false) ++ x :: sub ((T x).k true) := by
  have := h.eqn x hx false
  rw [ht] at this
  exact this

theorem last_only {A C D : List Nat} {p : Nat} (h : A ++ [p] = C ++ p :: D) (hn : (C ++ p :: D).Nodup) : D = [] := by
  rcases List.eq_nil_or_concat D with h0 | ⟨D', d, rfl⟩
  · exact h0
  · have e : A ++ [p] = (C ++ p :: D') ++ [d] := by rw [h]; simp
    have e2 := (List.append_inj' e rfl).2
    have e3 : p = d := by injection e2
    rw [List.nodup_append, List.nodup_cons] at hn
    exact absurd (by rw [e3]; simp) hn.2.1.1

/-- The last one of a sequence is found, and brought to the top. -/
theorem HS.last {lo fb n nb N : Nat} {w w0 wr : World} {T : Tb} {v : Nat → Int} {sub seq : Nat → List Nat} (h : HS lo w w0 fb n nb N T v sub seq wr) (x b : Nat) (hx0 : x ≠ 0) (hx : x < N) (hu : (T x).up = 0) (hb : Box wr b true) :
    Calls Tryz.prog 116 #[.pointer (some ⟨fb, 0, none⟩), .int .i32 (x : Int), .func (.func 128) #[] #[.pointer (some ⟨b, 0, none⟩)]] wr fun e w' => ∃ (p : Nat) (T' : Tb) (sub' : Nat → List Nat), e = .returned (.int .i32 (p : Int)) ∧ p ≠ 0 ∧ p < N ∧ HS lo w w0 fb n nb N T' v sub' seq w' ∧ (T' p).up = 0 ∧ (T' p).t = false ∧ (T' p).r = 0 ∧ seq p = seq x := by
  have hr := h.gd.inv.root x hx0 hu
  refine (seek_to (.pointer (some ⟨b, 0, none⟩)) fb nb n N v seq lo w w0 (fun T sub y _ => ∃ A, seq x = A ++ [y]) x wr
    (descend_to (.pointer (some ⟨b, 0, none⟩)) fb nb n N v seq lo w w0 (fun T sub y wy => Box wy b true ∧ ∃ A, seq x = A ++ sub y) _ ?_ ?_ x T sub wr h hx0 hx ⟨hb, [], by rw [hr]; rfl⟩)).mono ?_
  · rintro T1 sub1 T2 sub2 y y1 y2 h1 ⟨b1, A, hA⟩ hy m s t h2
    exact ⟨b1.of h1.fo t, A, by rw [s.self h1.gd.inv hy]; exact hA⟩
  · rintro T1 sub1 y y1 h1 ⟨b1, A, hA⟩ hy hyN ht
    refine (toward1_ok true y b y1 b1).mono ?_
    rintro e y2 ⟨rfl, rfl⟩
    have e := h1.gd.inv.flat hy ht
    refine ⟨_, rfl, h1, Or.inr ⟨true, rfl, fun h0 => ⟨A ++ sub1 ((T1 y).k false), ?_⟩, fun h0 => ⟨b1, A ++ sub1 ((T1 y).k false) ++ [y], ?_⟩⟩⟩
    · rw [hA, e, h0, h1.gd.inv.sub0, List.append_assoc]
    · rw [hA, e]; simp
  · rintro e w' ⟨p, T', sub', rfl, hp0, hp, h', u', t', _, _, _, A, hA⟩
    have hm : p ∈ seq x := by rw [hA]; simp
    have es := (h'.gd.mem_seq hx0 hm).1
    refine ⟨p, T', sub', rfl, hp0, hp, h', u', t', ?_, es⟩
    have hf := h'.gd.inv.flat hp0 t'
    have hr' := h'.gd.inv.root p hp0 u'
    have hn := h'.gd.inv.nd p
    rw [← hr', es, hA] at hf
    by_cases h0 : (T' p).r = 0
    · exact h0
    · have hrm : (T' p).r ∈ sub' ((T' p).k true) := h'.gd.inv.self h0
      rw [h'.gd.inv.flat hp0 t'] at hn
      rw [last_only hf hn] at hrm
      cases hrm

section
variable {lo fb n : Nat} {w w0 : World} {v : Nat → Int} {seq : Nat → List Nat}

set_option maxRecDepth 100000 in
set_option maxHeartbeats 2000000 in
theorem FS.join (h : FS lo w fb n v seq w0) (x y : Nat) (hx : x < n) (hy : y < n) (hne : seq (x + 1) ≠ seq (y + 1)) :
    Calls Tryz.prog 89 #[.pointer (some ⟨fb, 0, none⟩), .int .i64 (x : Int), .int .i64 (y : Int)] w0 fun e w' => e = .returned .nilIface ∧ FS lo w fb n v (joinS seq (x + 1) (y + 1)) w' ∧ Keep w0 w' := by
  have hs := hid (h.sameH x y hx hy)
  rw [decide_eq_false hne] at hs
  have hneh := hid hne
  clear h hne
  go_enter Tryz.func89, Tryz.ntmps89
  go_wp2_with fail
  refine hs.out.mono ?_
  rintro e w1 ⟨rfl, nb, N, T, sub, h1, hxN, hyN⟩
  have h1 := hid h1
  clear hs
  go_wp2_with fail
  refine (h1.out.top x hxN).mono ?_
  rintro e w2 ⟨rfl, T2, sub2, h2, m2, u2, t2⟩
  have h2 := hid h2
  have u2 := hid u2
  obtain ⟨X, hX⟩ : ∃ X, x + 1 = X := ⟨_, rfl⟩
  obtain ⟨Y, hY⟩ : ∃ Y, y + 1 = Y := ⟨_, rfl⟩
  have hXY := hid (And.intro hX hY)
  have hty : Hid (∀ T' sub' wy, HS lo w w0 fb n nb N T' v sub' seq wy → Calls Tryz.prog 98 #[.pointer (some ⟨fb, 0, none⟩), .int .i64 (y : Int)] wy fun e w' => e = .returned (.int .i32 ((y + 1 : Nat) : Int)) ∧ ∃ T'' sub'', HS lo w w0 fb n nb N T'' v sub'' seq w' ∧ Mv N v seq (y + 1) T' sub' T'' sub'' ∧ (T'' (y + 1)).up = 0 ∧ (T'' (y + 1)).t = false) := fun T' sub' wy hh => hh.top y hyN
  rw [hX] at hxN u2 hneh
  rw [hY] at hyN hty hneh
  rw [hX]
  have hX0 : X ≠ 0 := by omega
  have hY0 : Y ≠ 0 := by omega
  clear h1 m2 t2 hX hY
  have htw := toward_ok true w2
  rw [show sI true = 1 from rfl] at htw
  have htw := hid htw
  go_wp2_with fail
  refine htw.out.mono ?_
  rintro e w3 ⟨rfl, hw3⟩
  have h3 : Hid (HS lo w w0 fb n nb N T2 v sub2 seq w3) := by rw [hw3]; exact h2.out.alloc _
  have hb : Hid (Box w3 w2.heap.size true) := by rw [hw3]; exact heap_alloc_new w2 _
  generalize w2.heap.size = bb at hb ⊢
  clear hw3 h2 htw
  go_wp2_with fail
  refine (h3.out.last X bb hX0 hxN u2.out hb.out).mono ?_
  rintro e w4 ⟨p, T4, sub4, rfl, hp0, hpN, h4, u4, t4, r4, es⟩
  have h4 := hid h4
  have f4 := hid (And.intro u4 (And.intro t4 (And.intro r4 es)))
  have hp0 := hid hp0
  clear h3 hb u4 t4 r4 es u2
  go_wp2_with fail
  refine (hty.out T4 sub4 _ h4.out).mono ?_
  rintro e w5 ⟨rfl, T5, sub5, h5, m5, u5, t5⟩
  have hpy : seq p ≠ seq Y := by rw [f4.out.2.2.2]; exact hneh.out
  have ep := (m5.fr p (fun _ => hpy)).1
  have npy : Y ≠ p := fun e => hpy (by rw [e])
  have h5 := hid h5
  obtain ⟨sub6, g6⟩ := h5.out.gd.join hp0.out hY0 (by rw [ep]; exact f4.out.1) u5 (by rw [ep]; exact f4.out.2.1) (by rw [ep]; exact f4.out.2.2.1) hpy hpN hyN
  have g6 := hid g6
  have ej : Hid (joinS seq p Y = joinS seq X Y) := hid (by unfold joinS; rw [f4.out.2.2.2])
  have hh := hang_ok fb nb n N p Y true T5 w5 h5.out.fo hpN hyN npy (h5.out.gd.k_lt p _) (h5.out.gd.inv.kid_ne hp0.out _)
  rw [show sI true = 1 from rfl] at hh
  have hh := hid hh
  clear m5 u5 t5 ep hpy npy hty
  go_wp2_with fail
  refine hh.out.mono ?_
  rintro e w6 ⟨rfl, f6, t6⟩
  have h6 := hid (h5.out.turn f6 g6.out t6)
  clear f6 t6 hh
  go_wp2_with fail
  go_ret
  exact ⟨rfl, by rw [hXY.out.1, hXY.out.2, ← ej.out]; exact h6.out.end_, h6.out.keep⟩

set_option maxRecDepth 100000 in
set_option maxHeartbeats 1000000 in
theorem FS.join_same (h : FS lo w fb n v seq w0) (x y : Nat) (hx : x < n) (hy : y < n) (hne : seq (x + 1) = seq (y + 1)) :
    Calls Tryz.prog 89 #[.pointer (some ⟨fb, 0, none⟩), .int .i64 (x : Int), .int .i64 (y : Int)] w0 fun e w' => e = .returned (.iface 63 (.int .i64 20)) ∧ FS lo w fb n v seq w' ∧ Keep w0 w' := by
  have hs := hid (h.same x y hx hy)
  rw [decide_eq_true hne] at hs
  clear h hne
  go_enter Tryz.func89, Tryz.ntmps89
  go_wp2_with fail
  refine hs.out.mono ?_
  rintro e w1 ⟨rfl, h1, k1⟩
  have h1 := hid h1
  have k1 := hid k1
  clear hs
  go_wp2_with fail
  go_ret
  exact ⟨rfl, h1.out, k1.out⟩

set_option maxRecDepth 100000 in
set_option maxHeartbeats 1000000 in
theorem FS.join_bad (h : FS lo w fb n v seq w0) (x y : Int) (hx : ¬ ((0 ≤ x ∧ x < (n : Int)) ∧ (0 ≤ y ∧ y < (n : Int)))) :
    Calls Tryz.prog 89 #[.pointer (some ⟨fb, 0, none⟩), .int .i64 x, .int .i64 y] w0 fun e w' => e = .returned (.iface 63 (.int .i64 12)) ∧ FS lo w fb n v seq w' ∧ Keep w0 w' := by
  have hs := hid (h.same_bad x y hx)
  clear h hx
  go_enter Tryz.func89, Tryz.ntmps89
  go_wp2_with fail
  refine hs.out.mono ?_
  rintro e w1 ⟨rfl, h1, k1⟩
  have h1 := hid h1
  have k1 := hid k1
  clear hs
  go_wp2_with fail
  go_ret
  exact ⟨rfl, h1.out, k1.out⟩
end

set_option maxRecDepth 100000 in
set_option maxHeartbeats 1000000 in
theorem join_nil (x y : Int) (w0 : World) :
    Calls Tryz.prog 89 #[.pointer none, .int .i64 x, .int .i64 y] w0 fun e w' => e = .returned (.iface 63 (.int .i64 1)) ∧ Below w0.heap.size w0 w' := by
  go_enter Tryz.func89, Tryz.ntmps89
  go_wp2_with fail
  refine (same_nil x y _).mono ?_
  rintro e w1 ⟨rfl, b1⟩
  go_wp2_with fail
  go_ret
  exact ⟨rfl, b1⟩

end Go.Proofs.YtdmkbcbgjdmgdaaGreatDoor

namespace Go.Proofs.YtdmkbcbgjdmgdaaGreatDoor
open Go.RowKit
set_option linter.unusedVariables false

/-- The way from the top to a node, all above it settled: what stands ahead of all that is beneath it, and behind. -/
inductive Path (T : Tb) (sub : Nat → List Nat) : Nat → List Nat → List Nat → Prop
  | root (x : Nat) : x ≠ 0 → (T x).up = 0 → Path T sub x [] []
  | left (x p : Nat) (pre post : List Nat) : Path T sub p pre post → p ≠ 0 → x ≠ 0 → (T p).t = false → (T p).l = x → Path T sub x pre (p :: sub (T p).r ++ post)
  | right (x p : Nat) (pre post : List Nat) : Path T sub p pre post → p ≠ 0 → x ≠ 0 → (T p).t = false → (T p).r = x → Path T sub x (pre ++ sub (T p).l ++ [p]) post

section
variable {T T' : Tb} {v : Nat → Int} {sub sub' seq : Nat → List Nat}

theorem Path.seq_is (h : Inv T v sub seq) {x : Nat} {pre post : List Nat} (hP : Path T sub x pre post) : seq x = pre ++ sub x ++ post := by
  induction hP with
  | root x hx hu => rw [h.root x hx hu]; simp
  | left x p pre post _ hp hx ht hl ih =>
    have hu := h.upk p hp false (by rw [show (T p).k false = x from hl]; exact hx)
    rw [show (T p).k false = x from hl] at hu
    rw [h.climb x hx (by rw [hu]; exact hp), hu, ih, h.flat hp ht, show (T p).k false = x from hl]
    simp; rfl
  | right x p pre post _ hp hx ht hr ih =>
    have hu := h.upk p hp true (by rw [show (T p).k true = x from hr]; exact hx)
    rw [show (T p).k true = x from hr] at hu
    rw [h.climb x hx (by rw [hu]; exact hp), hu, ih, h.flat hp ht, show (T p).k true = x from hr]
    simp; rfl

theorem Path.back (h : Inv T v sub seq) {x : Nat} {pre post : List Nat} (hP : Path T sub x pre post) :
    ((T x).up = 0 ∧ pre = [] ∧ post = []) ∨ ∃ p pp qq, p ≠ 0 ∧ (T x).up = p ∧ Path T sub p pp qq ∧ (T p).t = false ∧ (((T p).l = x ∧ pre = pp ∧ post = p :: sub (T p).r ++ qq) ∨ ((T p).r = x ∧ pre = pp ++ sub (T p).l ++ [p] ∧ post = qq)) := by
  cases hP with
  | root _ hx hu => exact Or.inl ⟨hu, rfl, rfl⟩
  | left _ p _ qq hp' hp hx ht hl =>
    have hu := h.upk p hp false (by rw [show (T p).k false = x from hl]; exact hx)
    rw [show (T p).k false = x from hl] at hu
    exact Or.inr ⟨p, pre, qq, hp, hu, hp', ht, Or.inl ⟨hl, rfl, rfl⟩⟩
  | right _ p pp _ hp' hp hx ht hr =>
    have hu := h.upk p hp true (by rw [show (T p).k true = x from hr]; exact hx)
    rw [show (T p).k true = x from hr] at hu
    exact Or.inr ⟨p, pp, post, hp, hu, hp', ht, Or.inr ⟨hr, rfl, rfl⟩⟩

theorem Path.ne {x : Nat} {pre post : List Nat} (hP : Path T sub x pre post) : x ≠ 0 := by cases hP <;> assumption

/-- Settling a node leaves the way to it. -/
theorem Path.settle (h : Inv T v sub seq) {x : Nat} (hx : x ≠ 0) (s : Stl x T sub T' sub') {z : Nat} {pre post : List Nat} (hP : Path T sub z pre post) : (sub x).length ≤ (sub z).length → Path T' sub' z pre post := by
  have keep : ∀ p, p ≠ 0 → (sub x).length < (sub p).length → T' p = T p ∧ p ≠ x := fun p hp hl => by
    have h1 : p ≠ x := fun e => by rw [e] at hl; omega
    refine ⟨s.o p h1 (fun _ e => ?_), h1⟩
    have := h.up_lt hp (by rw [e]; exact hx)
    rw [e] at this
    omega
  induction hP with
  | root z hz hu => exact fun _ => Path.root z hz (by rw [s.up]; exact hu)
  | left z p pre post _ hp hz ht hl ih =>
    intro hle
    have hk := h.kid_lt hp false
    rw [show (T p).k false = z from hl] at hk
    obtain ⟨e1, e2⟩ := keep p hp (by omega)
    have e3 : sub' (T p).r = sub (T p).r := s.s _ (fun h0 e => e2 ((h.upk p hp true h0).symm.trans e))
    have := Path.left z p pre post (ih (by omega)) hp hz (by rw [e1]; exact ht) (by rw [e1]; exact hl)
    rw [e1, e3] at this
    exact this
  | right z p pre post _ hp hz ht hr ih =>
    intro hle
    have hk := h.kid_lt hp true
    rw [show (T p).k true = z from hr] at hk
    obtain ⟨e1, e2⟩ := keep p hp (by omega)
    have e3 : sub' (T p).l = sub (T p).l := s.s _ (fun h0 e => e2 ((h.upk p hp false h0).symm.trans e))
    have := Path.right z p pre post (ih (by omega)) hp hz (by rw [e1]; exact ht) (by rw [e1]; exact hr)
    rw [e1, e3] at this
    exact this
end

section
variable {lo fb n nb N : Nat} {w w0 wr : World} {T : Tb} {v : Nat → Int} {sub seq : Nat → List Nat}

/-- From a node down to the first one beneath it. -/
theorem HS.firstOf (h : HS lo w w0 fb n nb N T v sub seq wr) (x b : Nat) (hx : x < N) (pre : List Nat) (hP : ∃ post, Path T sub x pre post) (hb : Box wr b false) :
    Calls Tryz.prog 104 #[.pointer (some ⟨fb, 0, none⟩), .int .i32 (x : Int), .func (.func 128) #[] #[.pointer (some ⟨b, 0, none⟩)]] wr fun e w' => ∃ (x' : Nat) (T' : Tb) (sub' : Nat → List Nat), e = .returned (.int .i32 (x' : Int)) ∧ x' ≠ 0 ∧ x' < N ∧ HS lo w w0 fb n nb N T' v sub' seq w' ∧ (T' x').t = false ∧ (T' x').l = 0 ∧ seq x' = seq x ∧ ∃ post, Path T' sub' x' pre post := by
  have hx0 : x ≠ 0 := by obtain ⟨post, hP⟩ := hP; exact hP.ne
  refine (descend_to (.pointer (some ⟨b, 0, none⟩)) fb nb n N v seq lo w w0 (fun T sub y wy => Box wy b false ∧ seq y = seq x ∧ ∃ post, Path T sub y pre post) (fun T sub y wy => (T y).l = 0 ∧ seq y = seq x ∧ ∃ post, Path T sub y pre post) ?_ ?_ x T sub wr h hx0 hx ⟨hb, rfl, hP⟩).mono ?_
  · rintro T1 sub1 T2 sub2 y y1 y2 h1 ⟨b1, hq, post, hp⟩ hy m s t h2
    exact ⟨b1.of h1.fo t, hq, post, hp.settle h1.gd.inv hy s (Nat.le_refl _)⟩
  · rintro T1 sub1 y y1 h1 ⟨b1, hq, post, hp⟩ hy hyN ht
    refine (toward1_ok false y b y1 b1).mono ?_
    rintro e y2 ⟨rfl, rfl⟩
    refine ⟨_, rfl, h1, Or.inr ⟨false, rfl, fun h0 => ⟨h0, hq, post, hp⟩, fun h0 => ⟨b1, ?_, _, Path.left _ y pre post hp hy h0 ht rfl⟩⟩⟩
    have hu := h1.gd.inv.upk y hy false h0
    have := seq_up h1.gd.inv h0 (by rw [hu]; exact hy)
    rw [hu] at this
    exact this.symm.trans hq
  · rintro e w' ⟨x', T', sub', rfl, h1, h2, h3, h4, h5, h6, h7⟩
    exact ⟨x', T', sub', rfl, h1, h2, h3, h4, h5, h6, h7⟩

theorem mu_is {x : Nat} (h : Fo wr fb nb n N T) (hG : Gd N T v sub seq) (hx : x < N) : N + 1 - ml nb (.int .i32 (x : Int)) wr = N + 1 - (sub x).length := by rw [ml_is h hG hx]

set_option maxRecDepth 100000 in
set_option maxHeartbeats 2000000 in
theorem HS.next (h : HS lo w w0 fb n nb N T v sub seq wr) (y : Nat) (hy : y < N) (pre : List Nat) (hP : ∃ post, Path T sub y pre post) (ht : (T y).t = false) :
    Calls Tryz.prog 106 #[.pointer (some ⟨fb, 0, none⟩), .int .i32 (y : Int)] wr fun e w' => ∃ (z : Nat) (T' : Tb) (sub' : Nat → List Nat), e = .returned (.int .i32 (z : Int)) ∧ z < N ∧ HS lo w w0 fb n nb N T' v sub' seq w' ∧
      ((z = 0 ∧ seq y = pre ++ sub (T y).l ++ [y]) ∨ (z ≠ 0 ∧ seq z = seq y ∧ (T' z).t = false ∧ ∃ pre', (∃ post, Path T' sub' z pre' post) ∧ pre' ++ sub' (T' z).l = pre ++ sub (T y).l ++ [y])) := by
  obtain ⟨post, hP⟩ := hP
  have hy0 := hP.ne
  have hbig := h.fo.big
  have c1 := h.fo.c1
  have cr : wr.cell? ⟨nb, y * 9 + 6 + 1, none⟩ = some (.int .i32 ((T y).r : Int)) := h.fo.r hy
  have q1 : (0 : Int) ≤ (y : Int) := by omega
  have q2 : (y : Int) < (N : Int) := by omega
  obtain ⟨R, hR⟩ : ∃ R, (T y).r = R := ⟨_, rfl⟩
  rw [hR] at cr
  by_cases hR0 : R = 0
  · -- up
    have key : pre ++ sub y = pre ++ sub (T y).l ++ [y] := by
      have := h.gd.inv.flat hy0 ht
      rw [this, show (T y).k true = 0 from hR.trans hR0, h.gd.inv.sub0]
      simp; rfl
    have st : Hid (∃ pa qa, y ≠ 0 ∧ y < N ∧ Path T sub y pa qa ∧ pa ++ sub y = pre ++ sub (T y).l ++ [y] ∧ seq y = seq y ∧ HS lo w w0 fb n nb N T v sub seq wr) := ⟨pre, post, hy0, hy, hP, key, rfl, h⟩
    subst hR0
    clear h hP ht key hR
    go_enter Tryz.func106, Tryz.ntmps106
    go_wp2_with fail
    go_loopw [1] (fun u wy => ∃ a : Nat, u = .int .i32 (a : Int) ∧ Hid (∃ pa qa, a ≠ 0 ∧ a < N ∧ Path T sub a pa qa ∧ pa ++ sub a = pre ++ sub (T y).l ++ [y] ∧ seq a = seq y ∧ HS lo w w0 fb n nb N T v sub seq wy)) (fun u wy => N + 1 - ml nb u wy)
    case atStart => exact ⟨y, rfl, by obtain ⟨pa, qa, a1, a2, a3, a4, _, a5⟩ := st.out; exact ⟨pa, qa, a1, a2, a3, a4, rfl, a5⟩⟩
    case round =>
      clear st cr c1
      obtain ⟨a, rfl, hst⟩ := hrel
      obtain ⟨pa, qa, ha0, haN, hPa, hka, hsa, ha⟩ := hst.out
      have c1 := ha.fo.c1
      have cu := ha.fo.up haN
      have q3 : (0 : Int) ≤ (a : Int) := by omega
      have q4 : (a : Int) < (N : Int) := by omega
      have hmu := hid (mu_is ha.fo ha.gd haN)
      rcases hPa.back ha.gd.inv with ⟨hu, hpa, hqa⟩ | ⟨p, pp, qq, hp0, hup, hPp, htp, hside⟩
      · rw [hu] at cu
        have fin : Hid (seq y = pre ++ sub (T y).l ++ [y]) := hid (by
          rw [← hsa, hPa.seq_is ha.gd.inv, hqa, List.append_nil]; exact hka)
        have ha := hid ha
        have hN1 : 0 < N := by omega
        clear hst hPa hka hsa hu hpa hqa
        go_wp2_with fail
        go_ret
        exact ⟨0, T, sub, rfl, hN1, ha.out, Or.inl ⟨rfl, fin.out⟩⟩
      · rw [hup] at cu
        have tp : ((p : Int) != 0) = true := by simp; omega
        have hpN : p < N := by rw [← hup]; exact ha.gd.up_lt a
        have hw := where_ok fb nb n N a T wr ha.fo haN (ha.gd.up_lt a)
        rcases hside with ⟨hl, rfl, rfl⟩ | ⟨hr, rfl, rfl⟩
        · have hwh : whr T a = false := by
            unfold whr
            rw [hup]
            exact decide_eq_false (fun e => by
              have := ha.gd.inv.kids hp0 false (by rw [show (T p).k false = a from hl]; exact ha0)
              exact this (e.trans hl.symm))
          rw [hwh] at hw
          have hw : Hid (Calls Tryz.prog 129 #[.pointer (some ⟨fb, 0, none⟩), .int .i32 (a : Int)] wr fun e w' => e = .returned (.int .i64 0) ∧ w' = wr.drew) := hw
          have had := hid ha.drew
          have hrel : Hid (∃ pre', (∃ post, Path T sub p pre' post) ∧ pre' ++ sub (T p).l = pre ++ sub (T y).l ++ [y]) := ⟨pa, ⟨qq, hPp⟩, by rw [hl]; exact hka⟩
          have c1' := had.out.fo.c1
          have cu' : wr.drew.cell? ⟨nb, a * 9 + 5, none⟩ = some (.int .i32 (p : Int)) := by rw [← hup]; exact had.out.fo.up haN
          have hsp : Hid (seq p = seq y) := hid (by rw [← hsa, ha.gd.inv.climb a ha0 (by rw [hup]; exact hp0), hup])
          have htp := hid htp
          have hp0 := hid hp0
          clear hst hPa hka hsa hPp hup hwh hl ha
          go_wp2_with fail
          refine hw.out.mono ?_
          rintro e w' ⟨rfl, rfl⟩
          generalize wr.drew = wz at had c1' cu' ⊢
          clear c1 cu hw
          go_wp2_with fail
          go_ret
          exact ⟨p, T, sub, rfl, hpN, had.out, Or.inr ⟨hp0.out, hsp.out, htp.out, hrel.out⟩⟩
        · have hwh : whr T a = true := by unfold whr; rw [hup]; exact decide_eq_true hr
          rw [hwh] at hw
          have hw : Hid (Calls Tryz.prog 129 #[.pointer (some ⟨fb, 0, none⟩), .int .i32 (a : Int)] wr fun e w' => e = .returned (.int .i64 1) ∧ w' = wr.drew) := hw
          have had := hid ha.drew
          have c1' := had.out.fo.c1
          have cu' : wr.drew.cell? ⟨nb, a * 9 + 5, none⟩ = some (.int .i32 (p : Int)) := by rw [← hup]; exact had.out.fo.up haN
          have hlt := ha.gd.inv.kid_lt hp0 true
          rw [show (T p).k true = a from hr] at hlt
          have hmu2 := hid (mu_is had.out.fo had.out.gd hpN)
          have hlen := hid (ha.gd.len p)
          have hlt := hid hlt
          have hrel : Hid (∃ pa qa, p ≠ 0 ∧ p < N ∧ Path T sub p pa qa ∧ pa ++ sub p = pre ++ sub (T y).l ++ [y] ∧ seq p = seq y ∧ HS lo w w0 fb n nb N T v sub seq wr.drew) := by
            refine ⟨pp, qa, hp0, hpN, hPp, ?_, ?_, ha.drew⟩
            · rw [← hka, ha.gd.inv.flat hp0 htp, show (T p).k true = a from hr]; simp; rfl
            · rw [← hsa, ha.gd.inv.climb a ha0 (by rw [hup]; exact hp0), hup]
          clear hst hPa hka hsa hPp hup hwh hr ha htp
          go_wp2_with fail
          refine hw.out.mono ?_
          rintro e w' ⟨rfl, rfl⟩
          generalize wr.drew = wz at had c1' cu' hmu2 hrel ⊢
          clear c1 cu hw
          go_wp2_with fail
          go_roundw
          case rel => exact ⟨p, rfl, hrel⟩
          case measure => rw [hmu2.out, hmu.out]; have := hlt.out; have := hlen.out; omega
  · -- down
    have tR : ((R : Int) != 0) = true := by simp; omega
    have hRN : R < N := by rw [← hR]; exact h.gd.r_lt y
    have hP2 : Hid (∃ post, Path T sub R (pre ++ sub (T y).l ++ [y]) post) := ⟨post, Path.right R y pre post hP hy0 hR0 ht hR⟩
    have hsR : Hid (seq R = seq y) := hid (by
      have hu := h.gd.inv.upk y hy0 true (by rw [show (T y).k true = R from hR]; exact hR0)
      rw [show (T y).k true = R from hR] at hu
      have := seq_up h.gd.inv hR0 (by rw [hu]; exact hy0)
      rw [hu] at this
      exact this.symm)
    have h := hid h
    have htw := toward_ok false wr
    rw [show sI false = 0 from rfl] at htw
    have htw := hid htw
    clear hP ht hR
    go_enter Tryz.func106, Tryz.ntmps106
    go_wp2_with fail
    refine htw.out.mono ?_
    rintro e w3 ⟨rfl, hw3⟩
    have h3 : Hid (HS lo w w0 fb n nb N T v sub seq w3) := by rw [hw3]; exact h.out.alloc _
    have hb : Hid (Box w3 wr.heap.size false) := by rw [hw3]; exact heap_alloc_new wr _
    generalize wr.heap.size = bb at hb ⊢
    clear hw3 h htw c1 cr
    go_wp2_with fail
    refine (h3.out.firstOf R bb hRN _ hP2.out hb.out).mono ?_
    rintro e w4 ⟨z, T4, sub4, rfl, hz0, hzN, h4, t4, l4, hsz, hPz⟩
    have fin : Hid (HS lo w w0 fb n nb N T4 v sub4 seq w4 ∧ z ≠ 0 ∧ seq z = seq y ∧ (T4 z).t = false ∧ ∃ pre', (∃ post, Path T4 sub4 z pre' post) ∧ pre' ++ sub4 (T4 z).l = pre ++ sub (T y).l ++ [y]) := ⟨h4, hz0, hsz.trans hsR.out, t4, _, hPz, by rw [l4, h4.gd.inv.sub0, List.append_nil]⟩
    clear h4 t4 l4 hPz hz0 h3 hb hsz
    go_wp2_with fail
    go_ret
    exact ⟨z, T4, sub4, rfl, hzN, fin.out.1, Or.inr fin.out.2⟩
end

end Go.Proofs.YtdmkbcbgjdmgdaaGreatDoor

namespace Go.Proofs.YtdmkbcbgjdmgdaaGreatDoor
open Go.RowKit
set_option linter.unusedVariables false

theorem infoInt : (Tryz.prog.info? 3).map (fun i => (i.zero, i.size, i.bytes)) = some (some (.int .i64 0), 1, 8) := by kernel_rfl

/-- A node's item as a cell. -/
def itm (d : Nat) : Value := .int .i64 ((d : Int) - 1)

theorem itm_one (l : List Nat) : ∀ u ∈ l.map itm, u.oneCell' = true := by
  intro u hu
  obtain ⟨d, _, rfl⟩ := List.mem_map.1 hu
  rfl

/-- A row of one's own of the items of these nodes. -/
def Rw (w : World) (v : Value) (l : List Nat) : Prop := ∃ base, w.ownsRow base 3 1 v l.length (l.map itm)

theorem Keep.row {w w' : World} (h : Keep w w') {base n : Nat} {v : Value} {xs : List Value} (ho : w.ownsRow base 3 1 v n xs) : w'.ownsRow base 3 1 v n xs := by
  refine ⟨ho.1, ?_⟩
  rcases ho.2 with hn | ⟨g, cap, cur, rfl, hb, hgg, rest⟩
  · exact .inl hn
  · exact .inr ⟨g, cap, cur, rfl, hb, h g _ _ _ hgg (by decide) (by decide), rest⟩

theorem Rw.keep {w w' : World} {v : Value} {l : List Nat} (h : Rw w v l) (k : Keep w w') : Rw w' v l := by
  obtain ⟨base, ho⟩ := h
  exact ⟨base, k.row ho⟩

theorem Rw.below {w w' : World} {v : Value} {l : List Nat} (h : Rw w v l) (hb : Below w.heap.size w w') : Rw w' v l := h.keep (Keep.ofBelow hb)

theorem Rw.form {w : World} {v : Value} {l : List Nat} (h : Rw w v l) : ∃ ad cap, v = .slice ad l.length cap ∧ (ad = none → l = []) ∧ ∀ a, ad = some a → ∃ g, a = ⟨g, 0, none⟩ ∧ ∀ (j d : Nat), l[j]? = some d → w.cell? ⟨g, j, none⟩ = some (itm d) := by
  obtain ⟨base, ho⟩ := h
  rcases ho.2 with ⟨rfl, hn⟩ | ⟨g, cap, cur, rfl, _⟩
  · refine ⟨none, 0, by rw [hn], fun _ => List.eq_nil_of_length_eq_zero hn, fun a e => by cases e⟩
  · refine ⟨some ⟨g, 0, none⟩, cap, rfl, (fun e => by cases e), fun a e => ⟨g, (Option.some.inj e).symm, fun j d hd => ?_⟩⟩
    have hj := (List.getElem?_eq_some_iff.1 hd).1
    rw [ho.cellAt j (by simpa using hj)]
    simp [hd]

section
variable {lo fb n nb N : Nat} {w w0 wr : World} {T : Tb} {v : Nat → Int} {sub seq : Nat → List Nat}

theorem HS.re (h : HS lo w w0 fb n nb N T v sub seq wr) : HS lo w wr fb n nb N T v sub seq wr := ⟨h.fo, h.gd, h.hN, h.nlo, h.flo, h.below, h.n1, h.n2, h.lw, Keep.refl _⟩

theorem HS.back {w1 : World} (h : HS lo w w1 fb n nb N T v sub seq wr) (k : Keep w0 w1) : HS lo w w0 fb n nb N T v sub seq wr := ⟨h.fo, h.gd, h.hN, h.nlo, h.flo, h.below, h.n1, h.n2, h.lw, k.trans h.keep⟩

theorem HS.grown (h : HS lo w w0 fb n nb N T v sub seq wr) {base k : Nat} {u : Value} {xs : List Value} {w' : World} (ho : wr.ownsRow base 3 1 u k xs) (hg : wr.grownBy w' u.ownBlock) (hb : w0.heap.size ≤ base) (hlo : lo ≤ base) : HS lo w w0 fb n nb N T v sub seq w' := by
  have hty : ∀ j, u.ownBlock = some j → base ≤ j ∧ ∃ cs fr, wr.heap[j]? = some (.cells cs 3 fr) := by
    intro j hj
    have hlt := ho.lt j hj
    rcases ho.2 with ⟨rfl, _⟩ | ⟨g, cap, cur, rfl, _, hgg, _⟩
    · simp [Value.ownBlock] at hj
    · simp [Value.ownBlock] at hj
      subst hj
      exact ⟨hlt.1, _, _, hgg⟩
  have ht : Turned (fun j => u.ownBlock = some j) wr w' := ⟨hg.os, hg.tape, hg.output, hg.size, fun k hk ho => hg.block k hk (fun e => ho e.symm)⟩
  have nf : ¬ u.ownBlock = some fb := fun e => by
    obtain ⟨_, cs, fr, e2⟩ := hty fb e
    rw [h.fo.self] at e2
    injection e2 with e2; injection e2 with _ e2; exact absurd e2 (by decide)
  have nn : ¬ u.ownBlock = some nb := fun e => by
    obtain ⟨_, cs, fr, e2⟩ := hty nb e
    rw [h.fo.nodes] at e2
    injection e2 with e2; injection e2 with _ e2; exact absurd e2 (by decide)
  refine ⟨h.fo.of ht nf nn, h.gd, h.hN, h.nlo, h.flo, h.below.trans (ht.below (fun j hj => by have := (hty j hj).1; omega) (Nat.le_trans h.lw h.below.size)), h.n1, h.n2, h.lw, fun k cs t fr hk h1 h2 => ?_⟩
  have h3 := h.keep k cs t fr hk h1 h2
  refine (hg.block k (Array.getElem?_eq_some_iff.1 h3).1 (fun e => ?_)).trans h3
  have := (hty k e.symm).1
  have := (Array.getElem?_eq_some_iff.1 hk).1
  omega

theorem row_slice {w : World} {base : Nat} {e : TypeId} {size n : Nat} {v : Value} {xs : List Value} (h : w.ownsRow base e size v n xs) : ∃ ad cap, v = .slice ad n cap := by
  rcases h.2 with ⟨rfl, rfl⟩ | ⟨g, cap, cur, rfl, _⟩
  · exact ⟨_, _, rfl⟩
  · exact ⟨_, _, rfl⟩

def lenV : Value → Nat
  | .slice _ n _ => n
  | _ => 0

theorem itm_new (w : World) (x : Nat) : ∀ j u, ([x + 1].map itm)[j]? = some u → (w.alloc (.cells #[.int .i64 (x : Int)] 3)).cell? ((⟨w.heap.size, 0, none⟩ : Addr).add j) = some u := by
  intro j u hu
  have hj : j = 0 := by
    have := (List.getElem?_eq_some_iff.1 hu).1
    simp at this; omega
  subst hj
  have hn := heap_alloc_new w (.cells #[.int .i64 (x : Int)] 3)
  simp [itm] at hu
  subst hu
  show (w.alloc _).cell? ((⟨w.heap.size, 0, none⟩ : Addr).add 0) = _
  rw [show (⟨w.heap.size, 0, none⟩ : Addr).add 0 = ⟨w.heap.size, 0, none⟩ from by unfold Addr.add; simp]
  unfold World.cell?
  rw [hn]
  simp

/-- A row of these nodes' items, newer than all that w0 holds. -/
def Rn (w0 w : World) (u : Value) (l : List Nat) : Prop := ∃ base, (∀ (k : Nat) (cs : Array Value) (t : TypeId) (fr : Nat × Nat), w0.heap[k]? = some (.cells cs t fr) → t ≠ 140 → t ≠ 144 → k < base) ∧ w.ownsRow base 3 1 u l.length (l.map itm)

set_option maxRecDepth 100000 in
set_option maxHeartbeats 4000000 in
theorem FS.listN (h : FS lo w fb n v seq w0) (x : Nat) (hx : x < n) :
    Calls Tryz.prog 75 #[.pointer (some ⟨fb, 0, none⟩), .int .i64 (x : Int)] w0 fun e w' => ∃ u, e = .returned (.tuple #[u, .nilIface]) ∧ Rn w0 w' u (seq (x + 1)) ∧ FS lo w fb n v seq w' ∧ Keep w0 w' := by
  obtain ⟨i0, hif, hz0, hz1, hz2⟩ := info_parts infoInt
  have hs := hid (h.sizeH x hx)
  clear h
  go_enter Tryz.func75, Tryz.ntmps75
  go_wp2_with fail
  refine hs.out.mono ?_
  rintro e w1 ⟨rfl, nb, N, T, sub, h1, hxN⟩
  obtain ⟨X, hX⟩ : ∃ X, x + 1 = X := ⟨_, rfl⟩
  have hXh := hid hX
  have hX0 : X ≠ 0 := by omega
  have hSl := h1.gd.seq_len hX0
  have hbig := h1.fo.big
  obtain ⟨S, hS⟩ : ∃ S, seq X = S := ⟨_, rfl⟩
  have hSh := hid hS
  rw [hX, hS]
  rw [hS] at hSl
  have k1 := hid h1.keep
  have hsz := Nat.le_trans h1.lw h1.below.size
  have h1 := hid h1.re
  clear hs hS
  go_wp2_with (at_make; refine wpList_make_own _ rfl (.const (.int .i64 0)) (.tmp 19) 47 rfl w1.heap.size 3 i0 (.int .i64 0) 1 Tryz.underlying47 hif hz0 hz1 .i64 .i64 _ S.length rfl rfl rfl (by rw [hz2]; omega) (by unfold maxLen; omega) (Nat.le_refl _) ?_; intro w2 hown hgrow; refine Hid.out ?_)
  have h2 := hid (h1.out.grown (World.ownsRow_nil w1 w1.heap.size 3 1) hgrow (Nat.le_refl _) hsz)
  have hown := hid hown
  clear hgrow h1
  refine hid ?_
  go_wp2_with fail
  refine (h2.out.re.top x hxN).mono ?_
  rintro e w3 ⟨rfl, T3, sub3, h3, m3, u3, t3⟩
  rw [hX] at u3 m3 hxN
  rw [hX]
  have ho3 := hid (h3.keep.row hown.out)
  have h3 := hid (h3.back h2.out.keep)
  have u3 := hid u3
  have htw := toward_ok false w3
  rw [show sI false = 0 from rfl] at htw
  have htw := hid htw
  clear hown h2 m3 t3 hX
  go_wp2_with fail
  refine htw.out.mono ?_
  rintro e w4 ⟨rfl, hw4⟩
  have h4 : Hid (HS lo w w1 fb n nb N T3 v sub3 seq w4) := by rw [hw4]; exact h3.out.alloc _
  have ho4 : Hid (w4.ownsRow w1.heap.size 3 1 (.slice (some ⟨w1.heap.size, 0, none⟩) 0 S.length) 0 []) := by rw [hw4]; exact ((Keep.refl w3).alloc _).row ho3.out
  have hb : Hid (Box w4 w3.heap.size false) := by rw [hw4]; exact heap_alloc_new w3 _
  generalize w3.heap.size = bb at hb ⊢
  clear hw4 h3 ho3 htw
  go_wp2_with fail
  refine (h4.out.re.firstOf X bb hxN [] ⟨[], Path.root X hX0 u3.out⟩ hb.out).mono ?_
  rintro e w5 ⟨z, T5, sub5, rfl, hz0, hzN, h5, t5, l5, es5, hPz⟩
  have ho5 := hid (h5.keep.row ho4.out)
  have st5 : Hid (∃ T1 sub1 done, HS lo w w1 fb n nb N T1 v sub1 seq w5 ∧ w5.ownsRow w1.heap.size 3 1 (.slice (some ⟨w1.heap.size, 0, none⟩) 0 S.length) done.length (done.map itm) ∧ (∃ g cap, Value.slice (some ⟨w1.heap.size, 0, none⟩) 0 S.length = .slice (some ⟨g, 0, none⟩) done.length cap) ∧ z < N ∧ ((z = 0 ∧ done = S) ∨ (z ≠ 0 ∧ seq z = S ∧ (T1 z).t = false ∧ ∃ pre, (∃ post, Path T1 sub1 z pre post) ∧ pre ++ sub1 (T1 z).l = done))) :=
    ⟨T5, sub5, [], h5.back h4.out.keep, ho5.out, ⟨_, _, rfl⟩, hzN, Or.inr ⟨hz0, es5.trans hSh.out, t5, [], hPz, by rw [l5, h5.gd.inv.sub0]; rfl⟩⟩
  clear ho4 h4 hb h5 t5 l5 hPz ho5 es5 hz0 u3
  go_wp2_with fail
  go_loopw [8, 9] (fun o u wr => ∃ a : Nat, u = .int .i32 (a : Int) ∧ Hid (∃ T1 sub1 done, HS lo w w1 fb n nb N T1 v sub1 seq wr ∧ wr.ownsRow w1.heap.size 3 1 o done.length (done.map itm) ∧ (∃ g cap, o = .slice (some ⟨g, 0, none⟩) done.length cap) ∧ a < N ∧ ((a = 0 ∧ done = S) ∨ (a ≠ 0 ∧ seq a = S ∧ (T1 a).t = false ∧ ∃ pre, (∃ post, Path T1 sub1 a pre post) ∧ pre ++ sub1 (T1 a).l = done)))) (fun o _ _ => S.length + 1 - lenV o)
  case atStart => exact ⟨z, rfl, st5⟩
  case round =>
    clear st5
    obtain ⟨a, rfl, hst⟩ := hrel
    obtain ⟨T1, sub1, done, h1, ho, ⟨og, ocap, hov⟩, haN, hc⟩ := hst.out
    rcases hc with ⟨rfl, rfl⟩ | ⟨ha0, hsa, hta, pre, hP, hdone⟩
    · clear hov
      have fin := hid (And.intro h1 ho)
      clear hst h1 ho
      go_wp2_with fail
      go_ret2
      exact ⟨_, rfl, ⟨_, fun k cs t fr hk e1 e2 => (Array.getElem?_eq_some_iff.1 (k1.out k cs t fr hk e1 e2)).1, by rw [hXh.out, hSh.out]; exact fin.out.2⟩, fin.out.1.end_, k1.out.trans fin.out.1.keep⟩
    · have ta : ((a : Int) != 0) = true := by simp; omega
      obtain ⟨y, rfl⟩ : ∃ y, a = y + 1 := ⟨a - 1, by omega⟩
      have hlt : done.length + 1 ≤ S.length := by
        obtain ⟨post, hP⟩ := hP
        have e1 := hP.seq_is h1.gd.inv
        have e2 := h1.gd.inv.flat ha0 hta
        rw [show (T1 (y + 1)).k false = (T1 (y + 1)).l from rfl] at e2
        rw [hsa, e2] at e1
        rw [e1, ← hdone]
        simp; omega
      subst hov
      have hdh := hid (And.intro hsa (And.intro hta (And.intro hP hdone)))
      have h1 := hid h1
      have ho := hid ho
      clear hst hsa hta hP hdone
      go_wp2_with fail
      refine (item_ok y (by omega) _).mono ?_
      rintro e w6 ⟨rfl, rfl⟩
      have hrow := ho.out.alloc (.cells #[.int .i64 (y : Int)] 3)
      have hszr : w1.heap.size < wr.heap.size := by have := ho.out.lt og rfl; omega
      go_wp2_with (at_builtin; refine wpList_append_lies _ rfl (.tmp 32) (.tmp 35) 47 rfl w1.heap.size 3 i0 _ 1 8 Tryz.underlying47 hif hz0 hz1 hz2 rfl (by decide) _ _ _ rfl hrow ⟨wr.heap.size, 0, none⟩ 1 1 ([y + 1].map itm) rfl rfl (itm_new wr y) (itm_one _) (by decide) (by unfold maxLen; omega) (by omega) (by simp; omega) _ rfl ?_; intro g5 cap5 w7 hown5 hgrow5 hg5 hlt5; refine Hid.out ?_)
      have h7 := hid ((h1.out.alloc (.cells #[.int .i64 (y : Int)] 3)).grown hrow hgrow5 (Nat.le_refl _) hsz)
      have ho7 : Hid (w7.ownsRow w1.heap.size 3 1 (.slice (some ⟨g5, 0, none⟩) (done ++ [y + 1]).length cap5) (done ++ [y + 1]).length ((done ++ [y + 1]).map itm)) := hid (by
        rw [List.map_append, List.length_append]; exact hown5)
      have hn := h7.out.re.next (y + 1) haN pre hdh.out.2.2.1 hdh.out.2.1
      rw [show ((y + 1 : Nat) : Int) = (y : Int) + 1 from by omega] at hn
      have hn := hid hn
      clear hrow hown5 hgrow5 hg5 h1 ho
      refine hid ?_
      go_wp2_with fail
      refine hn.out.mono ?_
      rintro e w8 ⟨z8, T8, sub8, rfl, hz8, h8, hc8⟩
      have st8 : Hid (∃ T1 sub1 done', HS lo w w1 fb n nb N T1 v sub1 seq w8 ∧ w8.ownsRow w1.heap.size 3 1 (.slice (some ⟨g5, 0, none⟩) (done.length + 1) cap5) done'.length (done'.map itm) ∧ (∃ g cap, Value.slice (some ⟨g5, 0, none⟩) (done.length + 1) cap5 = .slice (some ⟨g, 0, none⟩) done'.length cap) ∧ z8 < N ∧ ((z8 = 0 ∧ done' = S) ∨ (z8 ≠ 0 ∧ seq z8 = S ∧ (T1 z8).t = false ∧ ∃ pre, (∃ post, Path T1 sub1 z8 pre post) ∧ pre ++ sub1 (T1 z8).l = done'))) := by
        have hl : (done ++ [y + 1]).length = done.length + 1 := by simp
        have hr8 := h8.keep.row ho7.out
        rw [hl] at hr8
        refine ⟨T8, sub8, done ++ [y + 1], h8.back h7.out.keep, by rw [hl]; exact hr8, ⟨_, _, by rw [hl]⟩, hz8, ?_⟩
        rcases hc8 with ⟨e1, e2⟩ | ⟨e1, e2, e3, pre', e4, e5⟩
        · exact Or.inl ⟨e1, by rw [← hdh.out.1, e2, hdh.out.2.2.2]⟩
        · exact Or.inr ⟨e1, e2.trans hdh.out.1, e3, pre', e4, by rw [e5, hdh.out.2.2.2]⟩
      clear h7 ho7 hn h8 hc8
      go_wp2_with fail
      go_roundw
      case rel => exact ⟨z8, rfl, st8⟩
      case measure => simp [lenV]; omega

theorem FS.list (h : FS lo w fb n v seq w0) (x : Nat) (hx : x < n) :
    Calls Tryz.prog 75 #[.pointer (some ⟨fb, 0, none⟩), .int .i64 (x : Int)] w0 fun e w' => ∃ u, e = .returned (.tuple #[u, .nilIface]) ∧ Rw w' u (seq (x + 1)) ∧ FS lo w fb n v seq w' ∧ Keep w0 w' := by
  refine (h.listN x hx).mono ?_
  rintro e w' ⟨u, rfl, ⟨base, _, hr⟩, h1, k1⟩
  exact ⟨u, rfl, ⟨base, hr⟩, h1, k1⟩
end

end Go.Proofs.YtdmkbcbgjdmgdaaGreatDoor
