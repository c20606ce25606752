/- Nil Groups; 'UniteNew', walked. -/
import Derived.Test.YtbjodjpdfpcjjaaDoorLaws7
import Derived.Test.YtbjodjpdfpcjjaaDoorErrAs
namespace Go.Proofs.YtbjodjpdfpcjjaaDoor
open Go.RowKit
set_option linter.unusedVariables false

set_option maxRecDepth 100000 in
set_option maxHeartbeats 1000000 in
theorem join_nil (a b : Int) (w : World) : Calls Tryd.prog 9 #[.pointer none, .int .i64 a, .int .i64 b] w fun e w' => e = .returned (.tuple #[.bool false, .iface 48 (.int .i64 1)]) ∧ Below w.heap.size w w' := by
  go_enter Tryd.func9, Tryd.ntmps9
  go_wp2_with fail
  refine (look_nil _ _).mono ?_
  rintro e w1 ⟨rfl, rfl⟩
  go_wp2_with fail
  go_ret2
  exact ⟨rfl, balloc w _⟩

set_option maxRecDepth 100000 in
set_option maxHeartbeats 1000000 in
theorem same_nil (a b : Int) (w : World) : Calls Tryd.prog 10 #[.pointer none, .int .i64 a, .int .i64 b] w fun e w' => e = .returned (.tuple #[.bool false, .iface 48 (.int .i64 1)]) ∧ Below w.heap.size w w' := by
  go_enter Tryd.func10, Tryd.ntmps10
  go_wp2_with fail
  refine (look_nil _ _).mono ?_
  rintro e w1 ⟨rfl, rfl⟩
  go_wp2_with fail
  go_ret2
  exact ⟨rfl, balloc w _⟩

set_option maxRecDepth 100000 in
set_option maxHeartbeats 1000000 in
theorem size_nil (x : Int) (w : World) : Calls Tryd.prog 12 #[.pointer none, .int .i64 x] w fun e w' => e = .returned (.tuple #[.int .i64 0, .iface 48 (.int .i64 1)]) ∧ Below w.heap.size w w' := by
  go_enter Tryd.func12, Tryd.ntmps12
  go_wp2_with fail
  refine (look_nil _ _).mono ?_
  rintro e w1 ⟨rfl, rfl⟩
  go_wp2_with fail
  go_ret2
  exact ⟨rfl, balloc w _⟩

set_option maxRecDepth 100000 in
set_option maxHeartbeats 1000000 in
theorem least_nil (x : Int) (w : World) : Calls Tryd.prog 13 #[.pointer none, .int .i64 x] w fun e w' => e = .returned (.tuple #[.int .i64 0, .iface 48 (.int .i64 1)]) ∧ Below w.heap.size w w' := by
  go_enter Tryd.func13, Tryd.ntmps13
  go_wp2_with fail
  refine (look_nil _ _).mono ?_
  rintro e w1 ⟨rfl, rfl⟩
  go_wp2_with fail
  go_ret2
  exact ⟨rfl, balloc w _⟩

set_option maxRecDepth 100000 in
set_option maxHeartbeats 1000000 in
theorem back_nil (x : Int) (w : World) : Calls Tryd.prog 7 #[.pointer none, .int .i64 x] w fun e w' => e = .returned (.iface 48 (.int .i64 1)) ∧ w = w' := by
  go_enter Tryd.func7, Tryd.ntmps7
  go_wp2_with fail
  go_ret
  exact ⟨rfl, rfl⟩

set_option maxRecDepth 100000 in
set_option maxHeartbeats 1000000 in
theorem count_nil (w : World) : Calls Tryd.prog 15 #[.pointer none] w fun e w' => e = .returned (.int .i64 0) ∧ w = w' := by
  go_enter Tryd.func15, Tryd.ntmps15
  go_wp2_with fail
  go_ret
  exact ⟨rfl, rfl⟩

set_option maxRecDepth 100000 in
set_option maxHeartbeats 1000000 in
theorem steps_nil (w : World) : Calls Tryd.prog 17 #[.pointer none] w fun e w' => e = .returned (.int .i64 0) ∧ w = w' := by
  go_enter Tryd.func17, Tryd.ntmps17
  go_wp2_with fail
  go_ret
  exact ⟨rfl, rfl⟩

theorem bstep {w a b : World} (h : Hid (Below w.heap.size w a)) (k : Below a.heap.size a b) : Hid (Below w.heap.size w b) := h.out.trans (k.mono h.out.size)

theorem fix_id (n : Nat) : fix n (fun x => x) = n := cnt_all (fun x _ => by simp)
theorem one_id {n x : Nat} (h : x < n) : cnt (fun y => (fun x : Nat => x) y == (fun x : Nat => x) x) n = 1 := cnt_one h

set_option maxRecDepth 100000 in
set_option maxHeartbeats 8000000 in
theorem new_law (n x : Int) (w : World) (hg : Handle w) : Calls Tryd.prog 4 #[.int .i64 n, .int .i64 x] w fun e w' => e = .returned (.bool true) ∧ Below w.heap.size w w' := by
  have hnum : Hid (∀ (c : Int) y, Below w.heap.size w y → Calls Tryd.prog 8 #[.iface 48 (.int .i64 c)] y fun e w' => e = .returned (.int .i64 c) ∧ Below y.heap.size y w') := fun c y hy => num_err c y (hg.below hy)
  clear hg
  go_enter Tryd.func4, Tryd.ntmps4
  go_wp2_with fail
  refine (join_nil 0 1 _).mono ?_
  rintro e w1 ⟨rfl, b1⟩
  replace b1 := hid b1
  go_wp2_with fail
  refine (same_nil 0 0 _).mono ?_
  rintro e w2 ⟨rfl, b2⟩
  replace b2 := bstep b1 b2
  go_wp2_with fail
  refine (size_nil 0 _).mono ?_
  rintro e w3 ⟨rfl, b3⟩
  replace b3 := bstep b2 b3
  go_wp2_with fail
  refine (least_nil 0 _).mono ?_
  rintro e w4 ⟨rfl, b4⟩
  replace b4 := bstep b3 b4
  go_wp2_with fail
  refine (hnum.out 1 _ b4.out).mono ?_
  rintro e w5 ⟨rfl, b5⟩
  replace b5 := bstep b4 b5
  go_wp2_with fail
  refine (hnum.out 1 _ b5.out).mono ?_
  rintro e w6 ⟨rfl, b6⟩
  replace b6 := bstep b5 b6
  go_wp2_with fail
  refine (hnum.out 1 _ b6.out).mono ?_
  rintro e w7 ⟨rfl, b7⟩
  replace b7 := bstep b6 b7
  go_wp2_with fail
  refine (hnum.out 1 _ b7.out).mono ?_
  rintro e w8 ⟨rfl, b8⟩
  replace b8 := bstep b7 b8
  go_wp2_with fail
  refine (back_nil 0 _).mono ?_
  rintro e w9 ⟨rfl, rfl⟩
  go_wp2_with fail
  refine (hnum.out 1 _ b8.out).mono ?_
  rintro e w9 ⟨rfl, b9⟩
  replace b9 := bstep b8 b9
  clear b1 b2 b3 b4 b5 b6 b7 b8
  go_wp2_with fail
  refine (count_nil _).mono ?_
  rintro e w10 ⟨rfl, rfl⟩
  go_wp2_with fail
  refine (steps_nil _).mono ?_
  rintro e w10 ⟨rfl, rfl⟩
  have cases4 : (n < 1 ∨ 4194304 < n) ∨ ∃ K : Nat, 1 ≤ K ∧ K ≤ 3000 ∧ (n = (K : Int) ∨ (K = 3000 ∧ 3000 < n ∧ n ≤ 4194304)) := by
    by_cases h1 : n < 1
    · exact Or.inl (Or.inl h1)
    · by_cases h2 : 4194304 < n
      · exact Or.inl (Or.inr h2)
      · by_cases h3 : n ≤ 3000
        · exact Or.inr ⟨n.toNat, by omega, by omega, Or.inl (by omega)⟩
        · exact Or.inr ⟨3000, by omega, by omega, Or.inr ⟨rfl, by omega, by omega⟩⟩
  rcases cases4 with hbad | ⟨K, k1, k2, hK⟩
  · have hnb := hid (new_bad n w9 hbad)
    rcases hbad with h1 | h1
    · have t1 : decide (3000 < n) = false := decide_eq_false (by omega)
      have t3 : decide (n < 1) = true := decide_eq_true h1
      go_wp2_with fail
      refine hnb.out.mono ?_
      rintro e w11 ⟨rfl, rfl⟩
      go_wp2_with fail
      refine (hnum.out 1 _ b9.out).mono ?_
      rintro e w12 ⟨rfl, b12⟩
      replace b12 := bstep b9 b12
      go_wp2_with fail
      refine (sure_ok _).mono ?_
      rintro e w13 ⟨rfl, b13⟩
      replace b13 := bstep b12 b13
      go_wp2_with fail
      go_ret
      exact ⟨rfl, b13.out⟩
    · have t1 : decide (3000 < n) = true := decide_eq_true (by omega)
      have t2 : decide (n ≤ 4194304) = false := decide_eq_false (by omega)
      have t3 : decide (n < 1) = false := decide_eq_false (by omega)
      have t4 : decide (4194304 < n) = true := decide_eq_true h1
      go_wp2_with fail
      refine hnb.out.mono ?_
      rintro e w11 ⟨rfl, rfl⟩
      go_wp2_with fail
      refine (hnum.out 1 _ b9.out).mono ?_
      rintro e w12 ⟨rfl, b12⟩
      replace b12 := bstep b9 b12
      go_wp2_with fail
      refine (sure_ok _).mono ?_
      rintro e w13 ⟨rfl, b13⟩
      replace b13 := bstep b12 b13
      go_wp2_with fail
      go_ret
      exact ⟨rfl, b13.out⟩
  · have t5 : decide ((K : Int) < 1) = false := decide_eq_false (by omega)
    have t6 : decide (4194304 < (K : Int)) = false := decide_eq_false (by omega)
    have hnw := hid (GL.new K w9 k1 (by omega))
    have key : Hid (∃ t : Bool, decide (3000 < n) = t ∧ (t = false → n = (K : Int)) ∧ (t = true → K = 3000 ∧ decide (n ≤ 4194304) = true)) := by
      rcases hK with e | ⟨e, h3, h4⟩
      · exact ⟨false, decide_eq_false (by omega), fun _ => e, (fun e => by cases e)⟩
      · exact ⟨true, decide_eq_true h3, (fun e => by cases e), fun _ => ⟨e, decide_eq_true h4⟩⟩
    clear hK
    obtain ⟨t, t1, hf, htr⟩ := key.out
    clear key
    cases t with
    | false =>
      obtain rfl := hf rfl
      clear hf htr
      go_wp2_with fail
      refine hnw.out.mono ?_
      rintro e w11 ⟨gb, rfl, h11⟩
      replace h11 := hid h11
      have hco := h11.out.count
      rw [fix_id] at hco
      replace hco := hid hco
      go_wp2_with fail
      refine hco.out.mono ?_
      rintro e w12 ⟨rfl, _, h12⟩
      replace h12 := hid h12
      clear h11 hco hnw
      by_cases hx : 0 ≤ x ∧ x < (K : Int)
      · obtain ⟨y, rfl⟩ : ∃ y : Nat, x = (y : Int) := ⟨x.toNat, by omega⟩
        have hyK : y < K := by omega
        have hsz := h12.out.size y hyK
        rw [one_id hyK] at hsz
        replace hsz := hid hsz
        have u1 : decide ((y : Int) < 0) = false := decide_eq_false (by omega)
        have u2 : decide ((K : Int) ≤ (y : Int)) = false := decide_eq_false (by omega)
        have u3 : decide (K ≤ y) = false := decide_eq_false (by omega)
        go_wp2_with fail
        refine hsz.out.mono ?_
        rintro e w13 ⟨rfl, h13⟩
        replace h13 := hid h13
        go_wp2_with fail
        refine (sure_ok _).mono ?_
        rintro e w14 ⟨rfl, b14⟩
        have fin := bstep b9 (h13.out.more b14).below
        go_wp2_with fail
        go_ret
        exact ⟨rfl, fin.out⟩
      · obtain ⟨O, g12, _⟩ := h12.out.st
        have hsb := hid (g12.size_bad x hx)
        have hlb : Hid (∀ y, Below w12.heap.size w12 y → Calls Tryd.prog 13 #[.pointer (some ⟨gb, 0, none⟩), .int .i64 x] y fun e w' => e = .returned (.tuple #[.int .i64 0, .iface 48 (.int .i64 12)]) ∧ Below y.heap.size y w') := fun y hy => (g12.more hy).least_bad x hx
        have b12 := bstep b9 h12.out.below
        clear g12
        have hxo : x < 0 ∨ (0 ≤ x ∧ (K : Int) ≤ x) := by omega
        clear hx
        rcases hxo with hx | ⟨hx1, hx2⟩
        · have u1 : decide (x < 0) = true := decide_eq_true hx
          go_wp2_with fail
          refine hsb.out.mono ?_
          rintro e w13 ⟨rfl, b13⟩
          replace b13 := hid b13
          go_wp2_with fail
          refine (hlb.out _ b13.out).mono ?_
          rintro e w14 ⟨rfl, b14⟩
          replace b14 := bstep (bstep b12 b13.out) b14
          go_wp2_with fail
          refine (hnum.out 12 _ b14.out).mono ?_
          rintro e w15 ⟨rfl, b15⟩
          replace b15 := bstep b14 b15
          go_wp2_with fail
          refine (hnum.out 12 _ b15.out).mono ?_
          rintro e w16 ⟨rfl, b16⟩
          replace b16 := bstep b15 b16
          go_wp2_with fail
          refine (sure_ok _).mono ?_
          rintro e w17 ⟨rfl, b17⟩
          replace b17 := bstep b16 b17
          go_wp2_with fail
          go_ret
          exact ⟨rfl, b17.out⟩
        · have u1 : decide (x < 0) = false := decide_eq_false (by omega)
          have u2 : decide ((K : Int) ≤ x) = true := decide_eq_true hx2
          go_wp2_with fail
          refine hsb.out.mono ?_
          rintro e w13 ⟨rfl, b13⟩
          replace b13 := hid b13
          go_wp2_with fail
          refine (hlb.out _ b13.out).mono ?_
          rintro e w14 ⟨rfl, b14⟩
          replace b14 := bstep (bstep b12 b13.out) b14
          go_wp2_with fail
          refine (hnum.out 12 _ b14.out).mono ?_
          rintro e w15 ⟨rfl, b15⟩
          replace b15 := bstep b14 b15
          go_wp2_with fail
          refine (hnum.out 12 _ b15.out).mono ?_
          rintro e w16 ⟨rfl, b16⟩
          replace b16 := bstep b15 b16
          go_wp2_with fail
          refine (sure_ok _).mono ?_
          rintro e w17 ⟨rfl, b17⟩
          replace b17 := bstep b16 b17
          go_wp2_with fail
          go_ret
          exact ⟨rfl, b17.out⟩
    | true =>
      obtain ⟨rfl, t2⟩ := htr rfl
      clear hf htr
      go_wp2_with fail
      refine hnw.out.mono ?_
      rintro e w11 ⟨gb, rfl, h11⟩
      replace h11 := hid h11
      have hco := h11.out.count
      rw [fix_id] at hco
      replace hco := hid hco
      go_wp2_with fail
      refine hco.out.mono ?_
      rintro e w12 ⟨rfl, _, h12⟩
      replace h12 := hid h12
      clear h11 hco hnw
      by_cases hx : 0 ≤ x ∧ x < (3000 : Int)
      · obtain ⟨y, rfl⟩ : ∃ y : Nat, x = (y : Int) := ⟨x.toNat, by omega⟩
        have hyK : y < 3000 := by omega
        have hsz := h12.out.size y hyK
        rw [one_id hyK] at hsz
        replace hsz := hid hsz
        have u1 : decide ((y : Int) < 0) = false := decide_eq_false (by omega)
        have u2 : decide ((3000 : Int) ≤ (y : Int)) = false := decide_eq_false (by omega)
        have u3 : decide (3000 ≤ y) = false := decide_eq_false (by omega)
        go_wp2_with fail
        refine hsz.out.mono ?_
        rintro e w13 ⟨rfl, h13⟩
        replace h13 := hid h13
        go_wp2_with fail
        refine (sure_ok _).mono ?_
        rintro e w14 ⟨rfl, b14⟩
        have fin := bstep b9 (h13.out.more b14).below
        go_wp2_with fail
        go_ret
        exact ⟨rfl, fin.out⟩
      · obtain ⟨O, g12, _⟩ := h12.out.st
        have hsb := hid (g12.size_bad x hx)
        have hlb : Hid (∀ y, Below w12.heap.size w12 y → Calls Tryd.prog 13 #[.pointer (some ⟨gb, 0, none⟩), .int .i64 x] y fun e w' => e = .returned (.tuple #[.int .i64 0, .iface 48 (.int .i64 12)]) ∧ Below y.heap.size y w') := fun y hy => (g12.more hy).least_bad x hx
        have b12 := bstep b9 h12.out.below
        clear g12
        have hxo : x < 0 ∨ (0 ≤ x ∧ (3000 : Int) ≤ x) := by omega
        clear hx
        rcases hxo with hx | ⟨hx1, hx2⟩
        · have u1 : decide (x < 0) = true := decide_eq_true hx
          go_wp2_with fail
          refine hsb.out.mono ?_
          rintro e w13 ⟨rfl, b13⟩
          replace b13 := hid b13
          go_wp2_with fail
          refine (hlb.out _ b13.out).mono ?_
          rintro e w14 ⟨rfl, b14⟩
          replace b14 := bstep (bstep b12 b13.out) b14
          go_wp2_with fail
          refine (hnum.out 12 _ b14.out).mono ?_
          rintro e w15 ⟨rfl, b15⟩
          replace b15 := bstep b14 b15
          go_wp2_with fail
          refine (hnum.out 12 _ b15.out).mono ?_
          rintro e w16 ⟨rfl, b16⟩
          replace b16 := bstep b15 b16
          go_wp2_with fail
          refine (sure_ok _).mono ?_
          rintro e w17 ⟨rfl, b17⟩
          replace b17 := bstep b16 b17
          go_wp2_with fail
          go_ret
          exact ⟨rfl, b17.out⟩
        · have u1 : decide (x < 0) = false := decide_eq_false (by omega)
          have u2 : decide ((3000 : Int) ≤ x) = true := decide_eq_true hx2
          go_wp2_with fail
          refine hsb.out.mono ?_
          rintro e w13 ⟨rfl, b13⟩
          replace b13 := hid b13
          go_wp2_with fail
          refine (hlb.out _ b13.out).mono ?_
          rintro e w14 ⟨rfl, b14⟩
          replace b14 := bstep (bstep b12 b13.out) b14
          go_wp2_with fail
          refine (hnum.out 12 _ b14.out).mono ?_
          rintro e w15 ⟨rfl, b15⟩
          replace b15 := bstep b14 b15
          go_wp2_with fail
          refine (hnum.out 12 _ b15.out).mono ?_
          rintro e w16 ⟨rfl, b16⟩
          replace b16 := bstep b15 b16
          go_wp2_with fail
          refine (sure_ok _).mono ?_
          rintro e w17 ⟨rfl, b17⟩
          replace b17 := bstep b16 b17
          go_wp2_with fail
          go_ret
          exact ⟨rfl, b17.out⟩

end Go.Proofs.YtbjodjpdfpcjjaaDoor
