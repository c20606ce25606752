/- The law's sure, walked. The law's huge, samePlaces, sameModel, walked. The law's givePlaces, giveModel and huge, walked. What the laws share: a number cut down, own bytes, boxes of models. -/
import Derived.Test.YtboafgimjadboaaGreatDoorArBslots
import Derived.Test.YtboafgimjadboaaGreatDoorBerr
import Derived.Test.YtboafgimjadboaaGreatDoorBmm
import Derived.Test.YtboafgimjadboaaGreatDoorBone
import Derived.Test.YtboafgimjadboaaGreatDoorBrd
import Derived.Test.YtboafgimjadboaaGreatDoorDecode17
import Derived.Lib.SlBytesConst
import Derived.BigQuiet
import Derived.Deep.RegionLaw
namespace Go.Proofs.YtboafgimjadboaaGreatDoor
open Go.RowKit
set_option linter.unusedVariables false

/-- 'string(b)' of a slice of bytes. -/
theorem string_at {w : World} {ad : Option Addr} {cap n : Nat} {l : List UInt8} (h : Wi.Bytes w ad cap l) (hn : n = l.length) :
    (convert 43 9 (.slice ad n cap)).run Tryz.prog w = .ok (.string ⟨l.toArray⟩) w := by
  subst hn
  cases ad with
  | none =>
    have h1 := h.nil rfl
    have h2 := h.le
    have h3 : l = [] := List.eq_nil_of_length_eq_zero (by omega)
    subst h3
    exact run_convert_bytes_nil w 43 5 Tryz.underlying43 Tryz.underlying5 _ _ 9 Tryz.underlying9
  | some a =>
    refine run_convert_bytes_back w 43 9 5 a cap l Tryz.underlying43 Tryz.underlying5 Tryz.underlying9 ?_
    intro j hj
    exact h.cell a rfl j _ (by simp [Wi.bc, hj])

theorem mp01 (w : World) : Mp w (.slice none 0 0) (.slice none 0 0) (.slice none 0 0) m01 :=
  ⟨⟨none, 0, 0, rfl, ⟨rfl, fun p hp => by simp [m01] at hp, fun j z hz => by simp [m01] at hz⟩, fun _ => rfl, Nat.le_refl _, Nat.zero_le _⟩,
   ⟨none, 0, 0, rfl, ⟨rfl, fun p hp => by simp [m01] at hp, fun j z hz => by simp [m01] at hz⟩, fun _ => rfl, Nat.le_refl _, Nat.zero_le _⟩,
   ⟨none, 0, 0, rfl, ⟨rfl, fun p hp => by simp [m01] at hp, fun j z hz => by simp [m01] at hz⟩, Nat.le_refl _, Nat.zero_le _⟩⟩

set_option maxRecDepth 100000 in
set_option maxHeartbeats 2000000 in
theorem sure17_ok (w : World) (hT : Ar.Tab w) (h2 : 2 ≤ w.heap.size) : Calls Tryz.prog 10 #[] w fun e w' => e = .returned (.bool true) ∧ Below w.heap.size w w' := by
  have h1 := hid (encode_ok (n := 1) (mp01 w) rfl hT h2 (by decide) (by decide) (by decide))
  replace hT := hid hT
  go_enter Tryz.func10, Tryz.ntmps10
  go_wp2_with fail
  refine h1.out.mono ?_
  rintro e w1 ⟨b1, ⟨_, u, rfl, hu⟩ | ⟨hn, _⟩⟩
  · obtain ⟨ad, cap, rfl, hby⟩ := hu.bytes (by rw [enc01]; decide)
    rw [enc01] at hby ⊢
    have hd := hid (decode_ok hby rfl (by decide) (tab_below hT.out b1) (Nat.le_trans h2 b1.size))
    replace b1 := hid b1
    replace hby := hid hby
    clear hu h1
    go_wp2_with fail
    refine hd.out.mono ?_
    rintro e w2 ⟨b2, ⟨m, vv, ev, lv, his, rfl, hmp, _⟩ | ⟨hno, _⟩⟩
    · have hm1 := his.one is01
      have hmn : m.n = 1 := by rw [hm1]; rfl
      obtain ⟨va, vn, vc, rfl, hV, _⟩ := hmp.vs
      obtain ⟨ea, en, ec, rfl, _⟩ := hmp.es
      obtain ⟨la, ln, lc, rfl, _⟩ := hmp.l
      have hvn : vn = 0 := by rw [← hV.len, hm1]; rfl
      subst hvn
      replace hby := hid (hby.out.below b2)
      replace b2 := hid (b1.out.trans (b2.mono b1.out.size))
      rw [hmn]
      have n3 := new_of w2 #[.int .i64 1, .slice va 0 vc, .slice ea en ec, .slice la ln lc] 36
      have b3 := balloc w2 (.cells #[.int .i64 1, .slice va 0 vc, .slice ea en ec, .slice la ln lc] 36)
      have hs := string_at (n := 12) (hby.out.below b3) (by decide)
      have b3' := hid (b2.out.trans (b3.mono b2.out.size))
      clear hd his hmp hV b1 b2 b3 hm1 hmn hby
      go_upto_region 3 with fail
      obtain ⟨w3, hw3⟩ : ∃ w3, w2.alloc (.cells #[.int .i64 1, .slice va 0 vc, .slice ea en ec, .slice la ln lc] 36) = w3 := ⟨_, rfl⟩
      rw [hw3] at n3 hs b3' ⊢
      have c0 := cell_of n3 (j := 0) rfl
      have c1 := cell_of n3 (j := 1) rfl
      replace n3 := hid n3
      clear hw3
      go_wp2_with fail
      go_ret
      exact ⟨rfl, b3'.out⟩
    · exact absurd is01 (hno _)
  · exact absurd may01 hn

end Go.Proofs.YtboafgimjadboaaGreatDoor

namespace Go.Proofs.YtboafgimjadboaaGreatDoor
open Go.RowKit
set_option linter.unusedVariables false

set_option maxRecDepth 100000 in
set_option maxHeartbeats 1000000 in
theorem huge_ok {w : World} {n : Int} {vv ev lv : Value} {m : Mo} (hm : Mp w vv ev lv m) (z : Bool) (hz : z = true ↔ 40 < m.vs.length ∨ 40 < m.es.length ∨ 40 < m.l.length ∨ 60 < n ∧ n ≤ 1048576) :
    Calls Tryz.prog 9 #[.agg #[.int .i64 n, vv, ev, lv]] w fun e w' => e = .returned (.bool z) ∧ Below w.heap.size w w' := by
  obtain ⟨va, vn, vc, rfl, hV, _⟩ := hm.vs
  obtain ⟨ea, en, ec, rfl, hE, _⟩ := hm.es
  obtain ⟨la, ln, lc, rfl, hL, _⟩ := hm.l
  rw [hV.len, hE.len, hL.len] at hz
  have hb := hid (balloc w (.cells #[.int .i64 n, .slice va vn vc, .slice ea en ec, .slice la ln lc] 25))
  have hno : ¬ (40 < vn ∨ 40 < en ∨ 40 < ln ∨ 60 < n ∧ n ≤ 1048576) → z = false := fun q => by
    cases z with
    | false => rfl
    | true => exact absurd (hz.1 rfl) q
  have hyes := hz.2
  clear hV hE hL hm hz
  by_cases c1 : 40 < vn
  · obtain rfl := hyes (.inl c1)
    have t1 : decide ((40 : Int) < (vn : Int)) = true := decide_eq_true (by omega)
    have s1 : decide (40 < vn) = true := decide_eq_true c1
    clear hno hyes
    go_enter Tryz.func9, Tryz.ntmps9
    go_wp2_with fail
    go_ret
    exact ⟨rfl, hb.out⟩
  · have t1 : decide ((40 : Int) < (vn : Int)) = false := decide_eq_false (by omega)
    have s1 : decide (40 < vn) = false := decide_eq_false c1
    by_cases c2 : 40 < en
    · obtain rfl := hyes (.inr (.inl c2))
      have t2 : decide ((40 : Int) < (en : Int)) = true := decide_eq_true (by omega)
      have s2 : decide (40 < en) = true := decide_eq_true c2
      clear hno hyes
      go_enter Tryz.func9, Tryz.ntmps9
      go_wp2_with fail
      go_ret
      exact ⟨rfl, hb.out⟩
    · have t2 : decide ((40 : Int) < (en : Int)) = false := decide_eq_false (by omega)
      have s2 : decide (40 < en) = false := decide_eq_false c2
      by_cases c3 : 40 < ln
      · obtain rfl := hyes (.inr (.inr (.inl c3)))
        have t3 : decide ((40 : Int) < (ln : Int)) = true := decide_eq_true (by omega)
        have s3 : decide (40 < ln) = true := decide_eq_true c3
        clear hno hyes
        go_enter Tryz.func9, Tryz.ntmps9
        go_wp2_with fail
        go_ret
        exact ⟨rfl, hb.out⟩
      · have t3 : decide ((40 : Int) < (ln : Int)) = false := decide_eq_false (by omega)
        have s3 : decide (40 < ln) = false := decide_eq_false c3
        by_cases c4 : 60 < n
        · have t4 : decide (60 < n) = true := decide_eq_true c4
          by_cases c5 : n ≤ 1048576
          · obtain rfl := hyes (.inr (.inr (.inr ⟨c4, c5⟩)))
            have t5 : decide (n ≤ 1048576) = true := decide_eq_true c5
            clear hno hyes
            go_enter Tryz.func9, Tryz.ntmps9
            go_wp2_with fail
            go_ret
            exact ⟨rfl, hb.out⟩
          · obtain rfl := hno (by omega)
            have t5 : decide (n ≤ 1048576) = false := decide_eq_false c5
            clear hno hyes
            go_enter Tryz.func9, Tryz.ntmps9
            go_wp2_with fail
            go_ret
            exact ⟨rfl, hb.out⟩
        · obtain rfl := hno (by omega)
          have t4 : decide (60 < n) = false := decide_eq_false c4
          clear hno hyes
          go_enter Tryz.func9, Tryz.ntmps9
          go_wp2_with fail
          go_ret
          exact ⟨rfl, hb.out⟩

theorem bool_no {z : Bool} {p : Prop} (hz : z = true ↔ p) (h : ¬ p) : z = false := by
  cases z with
  | false => rfl
  | true => exact absurd (hz.1 rfl) h

theorem take_ext {α : Type} {a b : List α} {j : Nat} {x y : α} (h : a.take j = b.take j) (ha : a[j]? = some x) (hb : b[j]? = some y) (e : x = y) : a.take (j + 1) = b.take (j + 1) := by
  rw [List.take_add_one, List.take_add_one, h, ha, hb, e]

set_option maxRecDepth 100000 in
set_option maxHeartbeats 1000000 in
theorem sameP_ok {w : World} {a b : Value} {ps qs : List (Int × Int)} (ha : PV w a ps) (hb : PV w b qs) (z : Bool) (hz : z = true ↔ ps = qs) :
    Calls Tryz.prog 40 #[a, b] w fun e w' => e = .returned (.bool z) ∧ Below w.heap.size w w' := by
  obtain ⟨aa, an, ac, rfl, hA, _, a1, a2⟩ := ha
  obtain ⟨ba, bn, bc, rfl, hB, _, b1, b2⟩ := hb
  have hal := hA.len
  have hbl := hB.len
  have h0 := hid (Below.refl w.heap.size w)
  by_cases hn : an = bn
  · subst hn
    have t1 : ((an : Int) != (an : Int)) = false := by simp
    have hall := hid (fun (h : ps.take an = qs.take an) => hz.2 (by rw [← List.take_length (l := ps), ← List.take_length (l := qs), hal, hbl]; exact h))
    have hnot := hid (fun (j : Nat) (x y : Int × Int) (h1 : ps[j]? = some x) (h2 : qs[j]? = some y) (h : x ≠ y) => bool_no hz (fun e => h (Option.some.inj ((h1.symm.trans (by rw [e])).trans h2))))
    replace hA := hid hA
    replace hB := hid hB
    replace hal := hid hal
    replace hbl := hid hbl
    clear hz
    go_enter Tryz.func40, Tryz.ntmps40
    go_wp2_with fail
    go_loopw [5] (fun u wr => ∃ j : Nat, j ≤ an ∧ u = .int .i64 (j : Int) ∧ Hid (ps.take j = qs.take j) ∧ Hid (Below w.heap.size w wr)) (fun u _ => an - (intOf u).toNat)
    case atStart => exact ⟨0, by omega, by go_num, rfl, h0.out⟩
    case round =>
      obtain ⟨j, hj, rfl, htk, hbr⟩ := hrel
      rcases Nat.lt_or_ge j an with hlt | hge
      · obtain ⟨⟨x0, x1⟩, hx⟩ : ∃ p, ps[j]? = some p := ⟨_, List.getElem?_eq_getElem (by rw [hal.out]; exact hlt)⟩
        obtain ⟨⟨y0, y1⟩, hy⟩ : ∃ p, qs[j]? = some p := ⟨_, List.getElem?_eq_getElem (by rw [hbl.out]; exact hlt)⟩
        obtain ⟨g, o, rfl, c0, c1⟩ := (hA.out.below hbr.out).cell j _ hx
        obtain ⟨g', o', rfl, c2, c3⟩ := (hB.out.below hbr.out).cell j _ hy
        have j1 : (0 : Int) ≤ (j : Int) := by omega
        have j2 : (j : Int) < (an : Int) := by omega
        have j3 : (j : Int) + 1 ≤ 9223372036854775807 := by unfold maxLen at a2; omega
        dsimp only at c0 c1 c2 c3
        have hx' := hid hx
        have hy' := hid hy
        clear hx hy
        by_cases e0 : x0 = y0
        · subst e0
          have s0 : (x0 != x0) = false := by simp
          by_cases e1 : x1 = y1
          · subst e1
            have s1 : (x1 != x1) = false := by simp
            have hnx := hid (take_ext htk.out hx'.out hy'.out rfl)
            go_wp2_with fail
            go_quiet (fail)
            go_wp2_with fail
            go_roundw
            case rel => exact ⟨j + 1, by omega, by go_num, hnx, hid (belowN hbr.out _)⟩
            case measure => simp [intOf]; omega
          · have s1 : (x1 != y1) = true := by simpa using e1
            obtain rfl := hnot.out j _ _ hx'.out hy'.out (fun e => e1 (Prod.ext_iff.1 e).2)
            go_wp2_with fail
            go_quiet (fail)
            go_wp2_with fail
            go_ret
            exact ⟨rfl, belowN hbr.out _⟩
        · have s0 : (x0 != y0) = true := by simpa using e0
          obtain rfl := hnot.out j _ _ hx'.out hy'.out (fun e => e0 (Prod.ext_iff.1 e).1)
          go_wp2_with fail
          go_quiet (fail)
          go_wp2_with fail
          go_ret
          exact ⟨rfl, belowN hbr.out _⟩
      · obtain rfl : j = an := by omega
        obtain rfl := hall.out htk.out
        go_wp2_with fail
        go_ret
        exact ⟨rfl, hbr.out⟩
  · have t1 : ((an : Int) != (bn : Int)) = true := by simp; omega
    obtain rfl := bool_no hz (fun e => hn (by rw [← hal, ← hbl, e]))
    clear hz hA hB hal hbl
    go_enter Tryz.func40, Tryz.ntmps40
    go_wp2_with fail
    go_ret
    exact ⟨rfl, h0.out⟩

set_option maxRecDepth 100000 in
set_option maxHeartbeats 1000000 in
theorem sameM_ok {w : World} {n n' : Int} {vv ev lv vv' ev' lv' : Value} {m m' : Mo} (hm : Mp w vv ev lv m) (hn : m.n = n) (hm' : Mp w vv' ev' lv' m') (hn' : m'.n = n') (z : Bool) (hz : z = true ↔ m = m') :
    Calls Tryz.prog 19 #[.agg #[.int .i64 n, vv, ev, lv], .agg #[.int .i64 n', vv', ev', lv']] w fun e w' => e = .returned (.bool z) ∧ Below w.heap.size w w' := by
  obtain ⟨la, ln, lc, rfl, hL, l1, l2⟩ := hm.l
  obtain ⟨ka, kn, kc, rfl, hK, k1, k2⟩ := hm'.l
  have hll := hL.len
  have hkl := hK.len
  obtain ⟨w1, hw1⟩ : ∃ w1, w.alloc (.cells #[.int .i64 n, vv, ev, .slice la ln lc] 36) = w1 := ⟨_, rfl⟩
  have n1 := new_of w #[.int .i64 n, vv, ev, .slice la ln lc] 36
  have b1 := balloc w (.cells #[.int .i64 n, vv, ev, .slice la ln lc] 36)
  rw [hw1] at n1 b1
  obtain ⟨w2, hw2⟩ : ∃ w2, w1.alloc (.cells #[.int .i64 n', vv', ev', .slice ka kn kc] 25) = w2 := ⟨_, rfl⟩
  have n2 := new_of w1 #[.int .i64 n', vv', ev', .slice ka kn kc] 25
  have b2 := balloc w1 (.cells #[.int .i64 n', vv', ev', .slice ka kn kc] 25)
  rw [hw2] at n2 b2
  have hw1h := hid hw1
  have hw2h := hid hw2
  have hB2 := hid (b1.trans (b2.mono b1.size))
  have n12 := (b2.block _ (Array.getElem?_eq_some_iff.1 n1).1).trans n1
  have hB : w1.heap.size = w.heap.size + 1 := by rw [← hw1]; simp
  obtain ⟨A, hA⟩ : ∃ A, w.heap.size = A := ⟨_, rfl⟩
  rw [hA] at n12 hB
  rw [hB] at n2
  have cA := hid (fun (y : World) (hy : Below w2.heap.size w2 y) => (hy.block _ (Array.getElem?_eq_some_iff.1 n12).1).trans n12)
  have cB := hid (fun (y : World) (hy : Below w2.heap.size w2 y) => (hy.block _ (Array.getElem?_eq_some_iff.1 n2).1).trans n2)
  have hAh := hid hA
  have hvs := hid (fun (y : World) (hy : Below w.heap.size w y) (s : Bool) (hs : s = true ↔ m.vs = m'.vs) => sameP_ok (hm.vs.below hy) (hm'.vs.below hy) s hs)
  have hes := hid (fun (y : World) (hy : Below w.heap.size w y) (s : Bool) (hs : s = true ↔ m.es = m'.es) => sameP_ok (hm.es.below hy) (hm'.es.below hy) s hs)
  have hmm : Hid (m.n = m'.n → m.vs = m'.vs → m.es = m'.es → m.l = m'.l → m = m') := fun q1 q2 q3 q4 => by
    cases m; cases m'
    simp only [Mo.mk.injEq]
    exact ⟨q1, q2, q3, q4⟩
  replace hz := hid hz
  replace hL := hid hL
  replace hK := hid hK
  replace hll := hid hll
  replace hkl := hid hkl
  replace hn := hid hn
  replace hn' := hid hn'
  clear hm hm' hw1 hw2 b1 b2 n1 n2 n12 hA hB
  have hret := hid (fun (y : World) (hy : Below w2.heap.size w2 y) => hB2.out.trans (hy.mono hB2.out.size))
  obtain ⟨q0, q1, q2, q3⟩ : (w2.cell? ⟨A, 0, none⟩ = some (.int .i64 n) ∧ w2.cell? ⟨A, 1, none⟩ = some vv ∧ w2.cell? ⟨A, 2, none⟩ = some ev ∧ w2.cell? ⟨A, 3, none⟩ = some (.slice la ln lc)) := by
    have h0 := cA.out w2 (Below.refl _ _)
    exact ⟨cell_of h0 rfl, cell_of h0 rfl, cell_of h0 rfl, cell_of h0 rfl⟩
  obtain ⟨r0, r1, r2, r3⟩ : (w2.cell? ⟨A + 1, 0, none⟩ = some (.int .i64 n') ∧ w2.cell? ⟨A + 1, 1, none⟩ = some vv' ∧ w2.cell? ⟨A + 1, 2, none⟩ = some ev' ∧ w2.cell? ⟨A + 1, 3, none⟩ = some (.slice ka kn kc)) := by
    have h0 := cB.out w2 (Below.refl _ _)
    exact ⟨cell_of h0 rfl, cell_of h0 rfl, cell_of h0 rfl, cell_of h0 rfl⟩
  by_cases e1 : n = n'
  · subst e1
    have t1 : (n != n) = false := by simp
    by_cases e2 : m.vs = m'.vs
    · by_cases e3 : m.es = m'.es
      · by_cases e4 : ln = kn
        · subst e4
          have t4 : ((ln : Int) != (ln : Int)) = false := by simp
          have hall := hid (fun (h : m.l.take ln = m'.l.take ln) => hz.out.2 (hmm.out (hn.out.trans hn'.out.symm) e2 e3 (by rw [← List.take_length (l := m.l), ← List.take_length (l := m'.l), hll.out, hkl.out]; exact h)))
          have hnot := hid (fun (j : Nat) (x y : Eg) (h1 : m.l[j]? = some x) (h2 : m'.l[j]? = some y) (h : x ≠ y) => bool_no hz.out (fun e => h (Option.some.inj ((h1.symm.trans (by rw [e])).trans h2))))
          have e2h := hid e2
          have e3h := hid e3
          clear e2 e3 hz hmm
          go_enter Tryz.func19, Tryz.ntmps19
          go_upto_region 1 with fail
          rw [hw1h.out, hw2h.out, hAh.out]
          go_wp2_with fail
          refine (hvs.out _ hB2.out true (by simp [e2h.out])).mono ?_
          rintro e w3 ⟨rfl, b3⟩
          obtain ⟨q1', q2', q3'⟩ : (w3.cell? ⟨A, 1, none⟩ = some vv ∧ w3.cell? ⟨A, 2, none⟩ = some ev ∧ w3.cell? ⟨A, 3, none⟩ = some (.slice la ln lc)) := by
            have h0 := cA.out w3 b3
            exact ⟨cell_of h0 rfl, cell_of h0 rfl, cell_of h0 rfl⟩
          obtain ⟨r1', r2', r3'⟩ : (w3.cell? ⟨A + 1, 1, none⟩ = some vv' ∧ w3.cell? ⟨A + 1, 2, none⟩ = some ev' ∧ w3.cell? ⟨A + 1, 3, none⟩ = some (.slice ka ln kc)) := by
            have h0 := cB.out w3 b3
            exact ⟨cell_of h0 rfl, cell_of h0 rfl, cell_of h0 rfl⟩
          replace b3 := hid b3
          clear q0 q1 q2 q3 r0 r1 r2 r3
          go_wp2_with fail
          refine (hes.out _ (hret.out _ b3.out) true (by simp [e3h.out])).mono ?_
          rintro e w4 ⟨rfl, b4⟩
          replace b4 := hid (b3.out.trans (b4.mono b3.out.size))
          have q3'' : w4.cell? ⟨A, 3, none⟩ = some (.slice la ln lc) := cell_of (cA.out w4 b4.out) rfl
          have r3'' : w4.cell? ⟨A + 1, 3, none⟩ = some (.slice ka ln kc) := cell_of (cB.out w4 b4.out) rfl
          clear q1' q2' q3' r1' r2' r3' b3
          go_wp2_with fail
          go_loopw [5] (fun u wr => ∃ j : Nat, j ≤ ln ∧ u = .int .i64 (j : Int) ∧ Hid (m.l.take j = m'.l.take j) ∧ Hid (Below w2.heap.size w2 wr)) (fun u _ => ln - (intOf u).toNat)
          case atStart => exact ⟨0, by omega, by go_num, rfl, b4⟩
          case round =>
            obtain ⟨j, hj, rfl, htk, hbr⟩ := hrel
            clear q3'' r3''
            have q3'' : wr.cell? ⟨A, 3, none⟩ = some (.slice la ln lc) := cell_of (cA.out wr hbr.out) rfl
            have r3'' : wr.cell? ⟨A + 1, 3, none⟩ = some (.slice ka ln kc) := cell_of (cB.out wr hbr.out) rfl
            rcases Nat.lt_or_ge j ln with hlt | hge
            · obtain ⟨x, hx⟩ : ∃ p, m.l[j]? = some p := ⟨_, List.getElem?_eq_getElem (by rw [hll.out]; exact hlt)⟩
              obtain ⟨y, hy⟩ : ∃ p, m'.l[j]? = some p := ⟨_, List.getElem?_eq_getElem (by rw [hkl.out]; exact hlt)⟩
              obtain ⟨g, o, rfl, x0, x1, x2, x3, x4⟩ := (hL.out.below (hret.out _ hbr.out)).cell j _ hx
              obtain ⟨g', o', rfl, y0, y1, y2, y3, y4⟩ := (hK.out.below (hret.out _ hbr.out)).cell j _ hy
              have j1 : (0 : Int) ≤ (j : Int) := by omega
              have j2 : (j : Int) < (ln : Int) := by omega
              have j3 : (j : Int) + 1 ≤ 9223372036854775807 := by unfold maxLen at l2; omega
              have hx' := hid hx
              have hy' := hid hy
              clear hx hy
              by_cases e0 : x = y
              · subst e0
                have hnx := hid (take_ext htk.out hx'.out hy'.out rfl)
                have he1 : ∀ w, (Op.equalIn 10000 72 (.agg #[.int .u32 (x.f0 : Int), .int .u32 (x.f1 : Int), .int .u32 (x.n0 : Int), .int .u32 (x.n1 : Int), .int .i32 x.w]) (.agg #[.int .u32 (x.f0 : Int), .int .u32 (x.f1 : Int), .int .u32 (x.n0 : Int), .int .u32 (x.n1 : Int), .int .i32 x.w])).run Tryz.prog w = .ok true w := fun w => eg_eq x x true (by simp) w
                go_wp2_with fail
                go_quiet (fail)
                go_wp2_with fail
                go_roundw
                case rel => exact ⟨j + 1, by omega, by go_num, hnx, hid (belowN hbr.out _)⟩
                case measure => simp [intOf]; omega
              · obtain rfl := hnot.out j _ _ hx'.out hy'.out e0
                have he1 : ∀ w, (Op.equalIn 10000 72 (.agg #[.int .u32 (x.f0 : Int), .int .u32 (x.f1 : Int), .int .u32 (x.n0 : Int), .int .u32 (x.n1 : Int), .int .i32 x.w]) (.agg #[.int .u32 (y.f0 : Int), .int .u32 (y.f1 : Int), .int .u32 (y.n0 : Int), .int .u32 (y.n1 : Int), .int .i32 y.w])).run Tryz.prog w = .ok false w := fun w => eg_eq x y false (by simp [e0]) w
                clear e0
                go_wp2_with fail
                go_quiet (fail)
                go_wp2_with fail
                go_ret
                exact ⟨rfl, hret.out _ (belowN hbr.out _)⟩
            · obtain rfl : j = ln := by omega
              obtain rfl := hall.out htk.out
              go_wp2_with fail
              go_ret
              exact ⟨rfl, hret.out _ hbr.out⟩
        · have t4 : ((ln : Int) != (kn : Int)) = true := by simp; omega
          obtain rfl := bool_no hz.out (fun e => e4 (by rw [← hll.out, ← hkl.out, e]))
          have e2h := hid e2
          have e3h := hid e3
          clear e2 e3 hz hmm
          go_enter Tryz.func19, Tryz.ntmps19
          go_upto_region 1 with fail
          rw [hw1h.out, hw2h.out, hAh.out]
          go_wp2_with fail
          refine (hvs.out _ hB2.out true (by simp [e2h.out])).mono ?_
          rintro e w3 ⟨rfl, b3⟩
          obtain ⟨q1', q2', q3'⟩ : (w3.cell? ⟨A, 1, none⟩ = some vv ∧ w3.cell? ⟨A, 2, none⟩ = some ev ∧ w3.cell? ⟨A, 3, none⟩ = some (.slice la ln lc)) := by
            have h0 := cA.out w3 b3
            exact ⟨cell_of h0 rfl, cell_of h0 rfl, cell_of h0 rfl⟩
          obtain ⟨r1', r2', r3'⟩ : (w3.cell? ⟨A + 1, 1, none⟩ = some vv' ∧ w3.cell? ⟨A + 1, 2, none⟩ = some ev' ∧ w3.cell? ⟨A + 1, 3, none⟩ = some (.slice ka kn kc)) := by
            have h0 := cB.out w3 b3
            exact ⟨cell_of h0 rfl, cell_of h0 rfl, cell_of h0 rfl⟩
          replace b3 := hid b3
          clear q0 q1 q2 q3 r0 r1 r2 r3
          go_wp2_with fail
          refine (hes.out _ (hret.out _ b3.out) true (by simp [e3h.out])).mono ?_
          rintro e w4 ⟨rfl, b4⟩
          replace b4 := hid (b3.out.trans (b4.mono b3.out.size))
          have q3'' : w4.cell? ⟨A, 3, none⟩ = some (.slice la ln lc) := cell_of (cA.out w4 b4.out) rfl
          have r3'' : w4.cell? ⟨A + 1, 3, none⟩ = some (.slice ka kn kc) := cell_of (cB.out w4 b4.out) rfl
          clear q1' q2' q3' r1' r2' r3' b3
          go_wp2_with fail
          go_ret
          exact ⟨rfl, hret.out _ b4.out⟩
      · obtain rfl := bool_no hz.out (fun e => e3 (by rw [e]))
        have e2h := hid e2
        have e3h := hid e3
        clear e2 e3 hz hmm
        go_enter Tryz.func19, Tryz.ntmps19
        go_upto_region 1 with fail
        rw [hw1h.out, hw2h.out, hAh.out]
        go_wp2_with fail
        refine (hvs.out _ hB2.out true (by simp [e2h.out])).mono ?_
        rintro e w3 ⟨rfl, b3⟩
        obtain ⟨q1', q2', q3'⟩ : (w3.cell? ⟨A, 1, none⟩ = some vv ∧ w3.cell? ⟨A, 2, none⟩ = some ev ∧ w3.cell? ⟨A, 3, none⟩ = some (.slice la ln lc)) := by
          have h0 := cA.out w3 b3
          exact ⟨cell_of h0 rfl, cell_of h0 rfl, cell_of h0 rfl⟩
        obtain ⟨r1', r2', r3'⟩ : (w3.cell? ⟨A + 1, 1, none⟩ = some vv' ∧ w3.cell? ⟨A + 1, 2, none⟩ = some ev' ∧ w3.cell? ⟨A + 1, 3, none⟩ = some (.slice ka kn kc)) := by
          have h0 := cB.out w3 b3
          exact ⟨cell_of h0 rfl, cell_of h0 rfl, cell_of h0 rfl⟩
        replace b3 := hid b3
        clear q0 q1 q2 q3 r0 r1 r2 r3
        go_wp2_with fail
        refine (hes.out _ (hret.out _ b3.out) false (by simp [e3h.out])).mono ?_
        rintro e w4 ⟨rfl, b4⟩
        replace b4 := hid (b3.out.trans (b4.mono b3.out.size))
        go_wp2_with fail
        go_ret
        exact ⟨rfl, hret.out _ b4.out⟩
    · obtain rfl := bool_no hz.out (fun e => e2 (by rw [e]))
      have e2h := hid e2
      clear e2 hz hmm
      go_enter Tryz.func19, Tryz.ntmps19
      go_upto_region 1 with fail
      rw [hw1h.out, hw2h.out, hAh.out]
      go_wp2_with fail
      refine (hvs.out _ hB2.out false (by simp [e2h.out])).mono ?_
      rintro e w3 ⟨rfl, b3⟩
      replace b3 := hid b3
      go_wp2_with fail
      go_ret
      exact ⟨rfl, hret.out _ b3.out⟩
  · have t1 : (n != n') = true := by simpa using e1
    obtain rfl := bool_no hz.out (fun e => e1 (by rw [← hn.out, ← hn'.out, e]))
    clear hz hmm
    go_enter Tryz.func19, Tryz.ntmps19
    go_upto_region 1 with fail
    rw [hw1h.out, hw2h.out, hAh.out]
    go_wp2_with fail
    go_ret
    exact ⟨rfl, hB2.out⟩

end Go.Proofs.YtboafgimjadboaaGreatDoor

namespace Go.Proofs.YtboafgimjadboaaGreatDoor
open Go.RowKit
set_option linter.unusedVariables false

theorem pcs_new (w : World) (a s : Int) : ∀ j u, (Ar.pcs [(a, s)])[j]? = some u → (w.alloc (.cells #[.int .u32 a, .int .i64 s] 86)).cell? ((⟨w.heap.size, 0, none⟩ : Addr).add j) = some u := by
  intro j u hu
  rw [add_plain, Nat.zero_add]
  exact cell_of (new_of w _ _) (by simpa [Ar.pcs] using hu)

set_option maxRecDepth 100000 in
set_option maxHeartbeats 1000000 in
theorem give_ok {w : World} {v : Value} {ps : List (Int × Int)} (h : PV w v ps) (hb : ps.length ≤ 1000) :
    Calls Tryz.prog 28 #[v] w fun e w' => ∃ u, e = .returned u ∧ w'.ownsRow w.heap.size 86 2 u ps.length (Ar.pcs ps) ∧ Below w.heap.size w w' := by
  obtain ⟨i0, hif, hz0, hz1, hz2⟩ := info_parts infoPlace
  obtain ⟨ad, n, cap, rfl, hr, _, h1, h2⟩ := h
  have hn := hr.len
  rw [hn] at hb
  replace hn := hid hn
  replace hr := hid hr
  go_enter Tryz.func28, Tryz.ntmps28
  go_wp2_with fail
  go_loopw [3, 4] (fun v u wr => ∃ j : Nat, j ≤ n ∧ u = .int .i64 (j : Int) ∧ wr.ownsRow w.heap.size 86 2 v j (Ar.pcs (ps.take j)) ∧ Below w.heap.size w wr)
    (fun _ u _ => n - (intOf u).toNat)
  case atStart => exact ⟨0, by omega, by go_num, World.ownsRow_nil _ _ _ _, Below.refl _ _⟩
  case round =>
    obtain ⟨j, hj, rfl, hown, hbr⟩ := hrel
    rcases Nat.lt_or_ge j n with hlt | hge
    · obtain ⟨⟨a, s⟩, hp⟩ : ∃ p, ps[j]? = some p := ⟨_, List.getElem?_eq_getElem (by rw [hn.out]; exact hlt)⟩
      obtain ⟨b, o, rfl, c0, c1⟩ := (hr.out.below hbr).cell j _ hp
      have hsz := hbr.size
      have htk := hid (Ar.take_get hp)
      have j1 : (0 : Int) ≤ (j : Int) := by omega
      have j2 : (j : Int) < (n : Int) := by omega
      dsimp only at c0 c1
      clear hp
      go_wp2_with fail
      go_region_law (refine Ar.step_append_own rfl (.tmp 11) (.tmp 23) 33 rfl w.heap.size 86 i0 _ 2 16 Tryz.underlying33 hif hz0 hz1 hz2 rfl (by decide) u3 j (Ar.pcs (ps.take j)) (by simp [Act.eval]) (hown.drew.alloc _) ⟨wr.heap.size, 0, none⟩ 1 1 (Ar.pcs [(a, s)]) (by simp [Act.eval]) rfl (pcs_new wr a s) (Ar.pcs_one _) (by unfold maxLen; omega) (by omega) (by simp; omega) ?_; intro v' w' hown' hgrow')
      all_goals
        have hb3 := ((hbr.drew).alloc hbr.size (.cells #[.int .u32 a, .int .i64 s] 86)).grown hgrow' (by simp; omega) (fun k hk => (hown.lt k hk).1)
        rw [← Ar.pcs_append, ← htk.out] at hown'
        clear hown hgrow'
        go_wp2_with fail
        refine ⟨⟨j + 1, by omega, by go_num, hown', hb3⟩, ?_⟩
        simp [intOf]; omega
    · obtain rfl : j = n := by omega
      have hown2 : Hid (wr.ownsRow w.heap.size 86 2 u3 ps.length (Ar.pcs ps)) := by
        have := hown
        rw [← hn.out, List.take_length] at this
        exact this
      clear hown
      go_wp2_with fail
      go_ret
      exact ⟨_, rfl, hown2.out, hbr⟩

theorem ecs_one (l : List Eg) : ∀ u ∈ ecs l, u.oneCell' = true := by
  induction l with
  | nil => intro u hu; simp [ecs] at hu
  | cons x l ih =>
    intro u hu
    simp only [ecs, List.mem_cons] at hu
    rcases hu with rfl | rfl | rfl | rfl | rfl | hu
    · rfl
    · rfl
    · rfl
    · rfl
    · rfl
    · exact ih u hu

theorem ecs_new (w : World) (x : Eg) : ∀ j u, (ecs [x])[j]? = some u → (w.alloc (.cells #[.int .u32 (x.f0 : Int), .int .u32 (x.f1 : Int), .int .u32 (x.n0 : Int), .int .u32 (x.n1 : Int), .int .i32 x.w] 72)).cell? ((⟨w.heap.size, 0, none⟩ : Addr).add j) = some u := by
  intro j u hu
  rw [add_plain, Nat.zero_add]
  exact cell_of (new_of w _ _) (by simpa [ecs] using hu)

theorem own_off {w : World} {base e size n sb : Nat} {v : Value} {xs : List Value} (h : w.ownsRow base e size v n xs) (hs : sb < base) : v.ownBlock ≠ some sb := by
  rcases h.2 with ⟨rfl, _⟩ | ⟨g, cap, cur, rfl, hg, _⟩
  · simp [Value.ownBlock]
  · simp [Value.ownBlock]; omega

set_option maxRecDepth 100000 in
set_option maxHeartbeats 1000000 in
theorem giveM_ok {w : World} {n : Int} {vv ev lv : Value} {m : Mo} (hm : Mp w vv ev lv m) (hvl : m.vs.length ≤ 1000) (hel : m.es.length ≤ 1000) (hll : m.l.length ≤ 1000) :
    Calls Tryz.prog 12 #[.agg #[.int .i64 n, vv, ev, lv]] w fun e w' => ∃ uv ue ul, e = .returned (.agg #[.int .i64 n, uv, ue, ul]) ∧ Mp w' uv ue ul m ∧ Below w.heap.size w w' := by
  obtain ⟨i1, hjf, hy0, hy1, hy2⟩ := info_parts infoMEdge
  obtain ⟨la, ln, lc, rfl, hL, l1, l2⟩ := hm.l
  have hmh := hid hm
  have hln := hL.len
  rw [hln] at hll
  have hnum := hid hm.vs
  have b1 := balloc w (.cells #[.int .i64 n, vv, ev, .slice la ln lc] 25)
  have n1 := new_of w #[.int .i64 n, vv, ev, .slice la ln lc] 25
  replace hln := hid hln
  replace hL := hid hL
  clear hm hnum
  go_enter Tryz.func12, Tryz.ntmps12
  go_upto_region 1 with fail
  obtain ⟨w1, hw1⟩ : ∃ w1, w.alloc (.cells #[.int .i64 n, vv, ev, .slice la ln lc] 25) = w1 := ⟨_, rfl⟩
  have b2 := balloc w1 (.cells #[.int .i64 0, .slice none 0 0, .slice none 0 0, .slice none 0 0] 36)
  have n2 := new_of w1 #[.int .i64 0, .slice none 0 0, .slice none 0 0, .slice none 0 0] 36
  have hsz1 : w1.heap.size = w.heap.size + 1 := by rw [← hw1]; simp
  rw [hw1] at b1 n1 ⊢
  obtain ⟨w2, hw2⟩ : ∃ w2, w1.alloc (.cells #[.int .i64 0, .slice none 0 0, .slice none 0 0, .slice none 0 0] 36) = w2 := ⟨_, rfl⟩
  rw [hw2] at b2 n2 ⊢
  rw [hsz1] at n2
  have n12 := hid ((b2.block _ (Array.getElem?_eq_some_iff.1 n1).1).trans n1)
  have hB2 := hid (b1.trans (b2.mono b1.size))
  have hR2 : w.heap.size + 1 < w2.heap.size := (Array.getElem?_eq_some_iff.1 n2).1
  obtain ⟨A, hA⟩ : ∃ A, w.heap.size = A := ⟨_, rfl⟩
  rw [hA] at hR2 n2 n12 ⊢
  replace n2 := hid n2
  replace hA := hid hA
  clear hw1 hw2 b1 b2 n1 hsz1
  have c3 := cell_of n12.out (j := 3) rfl
  go_wp2_with fail
  go_loopw [3, 4] (fun v u wr => ∃ j : Nat, j ≤ ln ∧ u = .int .i64 (j : Int) ∧ Hid (wr.ownsRow w2.heap.size 72 5 v j (ecs (m.l.take j)) ∧ Below w2.heap.size w2 wr)) (fun _ u _ => ln - (intOf u).toNat)
  case atStart => exact ⟨0, by omega, by go_num, World.ownsRow_nil _ _ _ _, Below.refl _ _⟩
  case round =>
    obtain ⟨j, hj, rfl, hst⟩ := hrel
    clear c3
    have hBr := hid (hB2.out.trans (hst.out.2.mono hB2.out.size))
    have c3 := cell_of ((hst.out.2.block A (by omega)).trans n12.out) (j := 3) rfl
    have hsz := hst.out.2.size
    rcases Nat.lt_or_ge j ln with hlt | hge
    · obtain ⟨x, hx⟩ : ∃ x, m.l[j]? = some x := ⟨_, List.getElem?_eq_getElem (by rw [hln.out]; exact hlt)⟩
      obtain ⟨b, o, rfl, x0, x1, x2, x3, x4⟩ := (hL.out.below hBr.out).cell j x hx
      have j1 : (0 : Int) ≤ (j : Int) := by omega
      have j2 : (j : Int) < (ln : Int) := by omega
      have htk : Hid (ecs (m.l.take (j + 1)) = ecs (m.l.take j) ++ ecs [x]) := by
        show _ = _
        rw [List.take_add_one, hx, ← ecs_append]
        rfl
      obtain ⟨hown, hbr⟩ := hst.out
      replace hbr := hid hbr
      clear hst hx
      go_wp2_with (at_builtin; refine wpList_append_own _ rfl (.tmp 12) (.tmp 18) 34 rfl w2.heap.size 72 i1 _ 5 20 Tryz.underlying34 hjf hy0 hy1 hy2 rfl (by decide) _ _ _ rfl (hown.alloc _) ⟨wr.heap.size, 0, none⟩ 1 1 (ecs [x]) rfl rfl (ecs_new wr x) (ecs_one _) (by unfold maxLen; omega) (by omega) (by simp; omega) ?_; intro v' w' ho' hg' _; refine Hid.out ?_)
      have hnew : Hid (w'.ownsRow w2.heap.size 72 5 v' (j + 1) (ecs (m.l.take (j + 1))) ∧ Below w2.heap.size w2 w') := by
        refine ⟨by rw [htk.out]; exact ho', ?_⟩
        exact (hbr.out.alloc hsz _).grown hg' (by simp; omega) (fun k hk => (hown.lt k hk).1)
      clear ho' hg' hown hbr x0 x1 x2 x3 x4 c3
      refine hid ?_
      go_wp2_with fail
      go_roundw
      case rel => exact ⟨j + 1, by omega, by go_num, hnew⟩
      case measure => simp [intOf]; omega
    · obtain rfl : j = ln := by omega
      have hol : Hid (wr.ownsRow w2.heap.size 72 5 u3 m.l.length (ecs m.l)) := by
        have := hst.out.1
        rw [← hln.out, List.take_length] at this
        exact this
      have hbr := hid hst.out.2
      obtain ⟨ua, uc, hue, _, _⟩ := own_any hst.out.1
      subst hue
      have hS : Hid (∀ y, Ar.Turned (fun i => i = A + 1) wr y → y.cell? ⟨A, 0, none⟩ = some (.int .i64 n) ∧ y.cell? ⟨A, 1, none⟩ = some vv ∧ y.cell? ⟨A, 2, none⟩ = some ev) := fun y hy => by
        have h0 := ((hy.block A (by omega) (by omega)).trans (hbr.out.block A (by omega))).trans n12.out
        exact ⟨cell_of h0 rfl, cell_of h0 rfl, cell_of h0 rfl⟩
      have hRy : Hid (∀ y, Below wr.heap.size wr y → y.heap[A + 1]? = some (Obj.cells #[.int .i64 0, .slice none 0 0, .slice none 0 0, .slice none 0 0] 36 (0, 0))) := fun y hy => ((hy.block (A + 1) (by omega)).trans (hbr.out.block (A + 1) hR2)).trans n2.out
      have hg1 := hid (fun (y : World) (hy : Below wr.heap.size wr y) => give_ok ((hmh.out.below hBr.out).vs.below hy) hvl)
      have hg2 := hid (fun (y : World) (hy : Below wr.heap.size wr y) => give_ok ((hmh.out.below hBr.out).es.below hy) hel)
      clear hst
      have hdr : Hid (Ar.Turned (fun i => i = A + 1) wr wr.drew) := (Ar.Turned.refl _ _).drew
      go_upto_region 6 with fail
      go_region_held3 (fun w' => w'.cell? ⟨A, 0, none⟩ = some (.int .i64 n) ∧ w'.cell? ⟨A, 1, none⟩ = some vv ∧ w'.cell? ⟨A, 2, none⟩ = some ev) (first | with_reducible exact hS.out _ hdr.out | with_reducible exact hS.out _ tA | with_reducible exact hS.out _ tB | with_reducible exact hS.out _ tC | go_keep) ((first | (go_at_call 28; refine (hg2.out _ bA).mono ?_; rintro e2 y2 ⟨ue, rfl, ho2, bs⟩; obtain ⟨a2, k2, rfl, _, _⟩ := own_any ho2; have bB : Below wr.heap.size wr y2 := bA.trans (bs.mono bA.size); have tB := Ar.Turned.ofBelow bB (fun i => i = A + 1); have hR1 := hRy.out y2 bB; have q0 := cell_of hR1 (j := 0) rfl; have q1 := cell_of hR1 (j := 1) rfl; have q2 := cell_of hR1 (j := 2) rfl; have q3 := cell_of hR1 (j := 3) rfl; have g0 := frozen_of hR1 (k := 0); have g1 := frozen_of hR1 (k := 1); have g2 := frozen_of hR1 (k := 2); have g3 := frozen_of hR1 (k := 3); have ho1' := hid (ownsRow_below ho1.out bs); replace ho2 := hid ho2; have hsA := bA.size; have tC := (((tB.setCell (p := ⟨A + 1, 0, none⟩) rfl (.int .i64 n)).setCell (p := ⟨A + 1, 1, none⟩) rfl (.slice a1 m.vs.length k1)).setCell (p := ⟨A + 1, 2, none⟩) rfl (.slice a2 m.es.length k2)).setCell (p := ⟨A + 1, 3, none⟩) rfl (.slice ua j uc); replace hR1 := hid hR1; clear bs) | (go_at_call 28; refine (hg1.out _ (Below.refl _ _).drew).mono ?_; rintro e1 y1 ⟨uv, rfl, ho1, bs⟩; obtain ⟨a1, k1, rfl, _, _⟩ := own_any ho1; have bA : Below wr.heap.size wr y1 := (Below.refl wr.heap.size wr).drew.trans bs; have tA := Ar.Turned.ofBelow bA (fun i => i = A + 1); replace ho1 := hid ho1; clear bs)))
      all_goals
        have SR := ((((Ar.Turned.refl (fun i => i = A + 1) y2).setCell (p := ⟨A + 1, 0, none⟩) rfl (.int .i64 n)).setCell (p := ⟨A + 1, 1, none⟩) rfl (.slice a1 m.vs.length k1)).setCell (p := ⟨A + 1, 2, none⟩) rfl (.slice a2 m.es.length k2)).setCell (p := ⟨A + 1, 3, none⟩) rfl (.slice ua j uc)
        have hnum : ∀ {v : Value} {ps : List (Int × Int)}, PV w v ps → ∀ p, p ∈ ps → 0 ≤ p.1 ∧ p.1 < 4294967296 := fun h => by obtain ⟨_, _, _, _, q, _⟩ := h; exact q.num
        have hol2 := ownsRow_below hol.out bB
        have hmf : Hid (Mp ((((y2.setCell ⟨A + 1, 0, none⟩ (.int .i64 n)).setCell ⟨A + 1, 1, none⟩ (.slice a1 m.vs.length k1)).setCell ⟨A + 1, 2, none⟩ (.slice a2 m.es.length k2)).setCell ⟨A + 1, 3, none⟩ (.slice ua j uc)) (.slice a1 m.vs.length k1) (.slice a2 m.es.length k2) (.slice ua j uc) m) :=
          ⟨pv_of (row_kept ho1'.out SR (own_off ho1'.out (by show A + 1 < wr.heap.size; omega))) (hnum hmh.out.vs), pv_of (row_kept ho2.out SR (own_off ho2.out (by omega))) (hnum hmh.out.es), egv_of (row_kept hol2 SR (own_off hol2 (by omega))) (fun x hx => hL.out.num x hx)⟩
        have hbf : Hid (Below w.heap.size w ((((y2.setCell ⟨A + 1, 0, none⟩ (.int .i64 n)).setCell ⟨A + 1, 1, none⟩ (.slice a1 m.vs.length k1)).setCell ⟨A + 1, 2, none⟩ (.slice a2 m.es.length k2)).setCell ⟨A + 1, 3, none⟩ (.slice ua j uc))) := by
          have h0 := hBr.out.trans (bB.mono hBr.out.size)
          exact h0.trans (SR.below (fun i hi => by have := hA.out; omega) h0.size)
        have hrf := hid (set_block (set_block (set_block (set_block hR1.out (k := 0) (.int .i64 n)) (k := 1) (.slice a1 m.vs.length k1)) (k := 2) (.slice a2 m.es.length k2)) (k := 3) (.slice ua j uc))
        clear SR tA tB tC bA bB hol2 q0 q1 q2 q3 g0 g1 g2 g3 hg1 hg2 hS hRy hnum
        go_wp2_with fail
        refine bodyPost_ret (results_cell_row rfl _ _ (A + 1) 36 _ (0, 0) _ rfl hrf.out Tryz.underlying36 rfl (by kernel_rfl)) rfl ?_
        exact ⟨_, _, _, rfl, hmf.out, hbf.out⟩

end Go.Proofs.YtboafgimjadboaaGreatDoor

namespace Go.Proofs.YtboafgimjadboaaGreatDoor
open Go.RowKit
set_option linter.unusedVariables false

/-- A model that was boxed. -/
theorem mp_slices {w : World} {vv ev lv : Value} {m : Mo} (h : Mp w vv ev lv m) : ∃ va vn vc ea en ec la ln lc, vv = .slice va vn vc ∧ ev = .slice ea en ec ∧ lv = .slice la ln lc := by
  obtain ⟨va, vn, vc, e1, _⟩ := h.vs
  obtain ⟨ea, en, ec, e2, _⟩ := h.es
  obtain ⟨la, ln, lc, e3, _⟩ := h.l
  exact ⟨va, vn, vc, ea, en, ec, la, ln, lc, e1, e2, e3⟩

theorem Mp.en {w : World} {vv ev lv : Value} {m : Mo} (h : Mp w vv ev lv m) : ∀ x, x ∈ m.l → En x := by
  obtain ⟨_, _, _, _, hL, _⟩ := h.l
  exact fun x hx => hL.num x hx

/-- What a law holds of its argument, whatever came. -/
structure Lw (W w1 : World) (A : Nat) (vv ev lv : Value) (m : Mo) : Prop where
  bel : Below W.heap.size W w1
  box : ∀ y, Below w1.heap.size w1 y → Bxd y A m.n vv ev lv
  mp : ∀ y, Below w1.heap.size w1 y → Mp y vv ev lv m
  sure : ∀ y, Below w1.heap.size w1 y → Calls Tryz.prog 10 #[] y fun e w' => e = .returned (.bool true) ∧ Below y.heap.size y w'
  tab : ∀ y, Below w1.heap.size w1 y → Ar.Tab y
  hnd : ∀ y, Below w1.heap.size w1 y → Handle y
  two : ∀ y, Below w1.heap.size w1 y → 2 ≤ y.heap.size

theorem Lw.new {W : World} {vv ev lv : Value} {m : Mo} (hm : Mp W vv ev lv m) (hg : Handle W) (hT : Ar.Tab W) (h2 : 2 ≤ W.heap.size) : Lw W (W.alloc (.cells #[.int .i64 m.n, vv, ev, lv] 25)) W.heap.size vv ev lv m := by
  have hb := balloc W (.cells #[.int .i64 m.n, vv, ev, lv] 25)
  have up : ∀ y, Below (W.alloc (.cells #[.int .i64 m.n, vv, ev, lv] 25)).heap.size (W.alloc (.cells #[.int .i64 m.n, vv, ev, lv] 25)) y → Below W.heap.size W y := fun y hy => hb.trans (hy.mono hb.size)
  exact ⟨hb, (boxd W m.n vv ev lv 25).out, fun y hy => hm.below (up y hy), fun y hy => sure17_ok y (tab_below hT (up y hy)) (Nat.le_trans h2 (up y hy).size), fun y hy => tab_below hT (up y hy), fun y hy => hg.below (up y hy), fun y hy => Nat.le_trans h2 (up y hy).size⟩

/-- It is huge, or it is not. -/
def Hg (m : Mo) : Prop := 40 < m.vs.length ∨ 40 < m.es.length ∨ 40 < m.l.length ∨ 60 < m.n ∧ m.n ≤ 1048576
instance (m : Mo) : Decidable (Hg m) := by unfold Hg; infer_instance
theorem Lw.huge {W w1 : World} {A : Nat} {vv ev lv : Value} {m : Mo} (h : Lw W w1 A vv ev lv m) (hh : Hg m) (y : World) (hy : Below w1.heap.size w1 y) : Calls Tryz.prog 9 #[.agg #[.int .i64 m.n, vv, ev, lv]] y fun e w' => e = .returned (.bool true) ∧ Below y.heap.size y w' :=
  huge_ok (h.mp y hy) true ⟨fun _ => hh, fun _ => rfl⟩
theorem Lw.small {W w1 : World} {A : Nat} {vv ev lv : Value} {m : Mo} (h : Lw W w1 A vv ev lv m) (hh : ¬ Hg m) (y : World) (hy : Below w1.heap.size w1 y) : Calls Tryz.prog 9 #[.agg #[.int .i64 m.n, vv, ev, lv]] y fun e w' => e = .returned (.bool false) ∧ Below y.heap.size y w' :=
  huge_ok (h.mp y hy) false ⟨fun q => (by cases q), fun q => absurd q hh⟩

/-- Given as the program's, encoded. -/
theorem Lw.give {W w1 : World} {A : Nat} {vv ev lv : Value} {m : Mo} (h : Lw W w1 A vv ev lv m) (hh : ¬ Hg m) (y : World) (hy : Below w1.heap.size w1 y) : Calls Tryz.prog 12 #[.agg #[.int .i64 m.n, vv, ev, lv]] y fun e w' => ∃ uv ue ul, e = .returned (.agg #[.int .i64 m.n, uv, ue, ul]) ∧ Mp w' uv ue ul m ∧ Below y.heap.size y w' := by
  unfold Hg at hh
  exact giveM_ok (h.mp y hy) (by omega) (by omega) (by omega)
theorem Lw.enc {W w1 : World} {A : Nat} {vv ev lv uv ue ul : Value} {m : Mo} (h : Lw W w1 A vv ev lv m) (hh : ¬ Hg m) (y : World) (hy : Below w1.heap.size w1 y) (hm : Mp y uv ue ul m) :
    Calls Tryz.prog 17 #[.agg #[.int .i64 m.n, uv, ue, ul]] y fun e w' => Below y.heap.size y w' ∧ ((May m ∧ ∃ u, e = .returned (.tuple #[u, .nilIface]) ∧ Bw y.heap.size w' u (enc m)) ∨ (¬ May m ∧ e = .returned (.tuple #[.slice none 0 0, .iface 67 (.int .i64 17)]))) := by
  unfold Hg at hh
  exact encode_ok hm rfl (h.tab y hy) (h.two y hy) (by omega) (by omega) (by omega)
theorem Lw.len {m : Mo} (hh : ¬ Hg m) : 12 ≤ (Go.Proofs.YtboafgimjadboaaGreatDoor.enc m).length ∧ (Go.Proofs.YtboafgimjadboaaGreatDoor.enc m).length ≤ 1212 := by
  have := enc_len m
  unfold Hg at hh
  omega
theorem Lw.num17 {W w1 : World} {A : Nat} {vv ev lv : Value} {m : Mo} (h : Lw W w1 A vv ev lv m) (y : World) (hy : Below w1.heap.size w1 y) : Calls Tryz.prog 14 #[.iface 67 (.int .i64 17)] y fun e w' => e = .returned (.int .i64 17) ∧ Below y.heap.size y w' := num_err 17 y (h.hnd y hy)

end Go.Proofs.YtboafgimjadboaaGreatDoor
