/- The law's sure, walked. The law's huge, samePlaces, sameModel, walked. The law's givePlaces, giveModel and huge, walked. What the laws share: a number cut down, own bytes, boxes of models. -/
import Derived.Test.YtboafgimjadboaaGreatDoorArBslots
import Derived.Test.YtboafgimjadboaaGreatDoorBerr
import Derived.Test.YtboafgimjadboaaGreatDoorBmm
import Derived.Test.YtboafgimjadboaaGreatDoorBone
import Derived.Test.YtboafgimjadboaaGreatDoorBrd
import Derived.Test.YtboafgimjadboaaGreatDoorDecode17
import Derived.Lib.SlBytesConst
import Derived.BigQuiet
import Derived.Deep.RegionLaw
namespace Go.Proofs.YtboafgimjadboaaGreatDoor
open Go.RowKit
set_option linter.unusedVariables false

/-- 'string(b)' of a slice of bytes. -/
theorem string_at {w : World} {ad : Option Addr} {cap n : Nat} {l : List UInt8} (h : Wi.Bytes w ad cap l) (hn : n = l.length) :
    (convert 43 9 (.slice ad n cap)).run Tryz.prog w = .ok (.string ⟨l.toArray⟩) w := by
  subst hn
  cases ad with
  | none =>
    have h1 := h.nil rfl
    have h2 := h.le
    have h3 : l = [] := List.eq_nil_of_length_eq_zero (by omega)
    subst h3
    exact run_convert_bytes_nil w 43 5 Tryz.underlying43 Tryz.underlying5 _ _ 9 Tryz.underlying9
  | some a =>
    refine run_convert_bytes_back w 43 9 5 a cap l Tryz.underlying43 Tryz.underlying5 Tryz.underlying9 ?_
    intro j hj
    exact h.cell a rfl j _ (by simp [Wi.bc, hj])

theorem mp01 (w : World) : Mp w (.slice none 0 0) (.slice none 0 0) (.slice none 0 0) m01 :=
  ⟨⟨none, 0, 0, rfl, ⟨rfl, fun p hp => by simp [m01] at hp, fun j z hz => by simp [m01] at hz⟩, fun _ => rfl, Nat.le_refl _, Nat.zero_le _⟩,
   ⟨none, 0, 0, rfl, ⟨rfl, fun p hp => by simp [m01] at hp, fun j z hz => by simp [m01] at hz⟩, fun _ => rfl, Nat.le_refl _, Nat.zero_le _⟩,
   ⟨none, 0, 0, rfl, ⟨rfl, fun p hp => by simp [m01] at hp, fun j z hz => by simp [m01] at hz⟩, Nat.le_refl _, Nat.zero_le _⟩⟩

set_option maxRecDepth 100000 in
set_option maxHeartbeats 2000000 in
theorem sure17_ok (w : World) (hT : Ar.Tab w) (h2 : 2 ≤ w.heap.size) : Calls Tryz.prog 10 #[] w fun e w' => e = .returned (.bool true) ∧ Below w.heap.size w w' := by
  have h1 := hid (encode_ok (n := 1) (mp01 w) rfl hT h2 (by decide) (by decide) (by decide))
  replace hT := hid hT
  go_enter Tryz.func10, Tryz.ntmps10
  go_wp2_with fail
  refine h1.out.mono ?_
  rintro e w1 ⟨b1, ⟨_, u, rfl, hu⟩ | ⟨hn, _⟩⟩
  · obtain ⟨ad, cap, rfl, hby⟩ := hu.bytes (by rw [enc01]; decide)
    rw [enc01] at hby ⊢
    have hd := hid (decode_ok hby rfl (by decide) (tab_below hT.out b1) (Nat.le_trans h2 b1.size))
    replace b1 := hid b1
    replace hby := hid hby
    clear hu h1
    go_wp2_with fail
    refine hd.out.mono ?_
    rintro e w2 ⟨b2, ⟨m, vv, ev, lv, his, rfl, hmp, _⟩ | ⟨hno, _⟩⟩
    · have hm1 := his.one is01
      have hmn : m.n = 1 := by rw [hm1]; rfl
      obtain ⟨va, vn, vc, rfl, hV, _⟩ := hmp.vs
      obtain ⟨ea, en, ec, rfl, _⟩ := hmp.es
      obtain ⟨la, ln, lc, rfl, _⟩ := hmp.l
      have hvn : vn = 0 := by rw [← hV.len, hm1]; rfl
      subst hvn
      replace hby := hid (hby.out.below b2)
      replace b2 := hid (b1.out.trans (b2.mono b1.out.size))
      rw [hmn]
      have n3 := new_of w2 #[.int .i64 1, .slice va 0 vc, .slice ea en ec, .slice la ln lc] 36
      have b3 := balloc w2 (.cells #[.int .i64 1, .slice va 0 vc, .slice ea en ec, .slice la ln lc] 36)
      have hs := string_at (n := 12) (hby.out.below b3) (by decide)
      have b3' := hid (b2.out.trans (b3.mono b2.out.size))
      clear hd his hmp hV b1 b2 b3 hm1 hmn hby
      go_upto_region 3 with fail
      obtain ⟨w3, hw3⟩ : ∃ w3, w2.alloc (.cells #[.int .i64 1, .slice va 0 vc, .slice ea en ec, .slice la ln lc] 36) = w3 := ⟨_, rfl⟩
      rw [hw3] at n3 hs b3' ⊢
      have c0 := cell_of n3 (j := 0) rfl
      have c1 := cell_of n3 (j := 1) rfl
      replace n3 := hid n3
      clear hw3
      go_wp2_with fail
      go_ret
      exact ⟨rfl, b3'.out⟩
    · exact absurd is01 (hno _)
  · exact absurd may01 hn

end Go.Proofs.YtboafgimjadboaaGreatDoor

namespace Go.Proofs.YtboafgimjadboaaGreatDoor
open Go.RowKit
set_option linter.unusedVariables false

theorem bool_no {z : Bool} {p : Prop} (hz : z = true ↔ p) (h : ¬ p) : z = false := by
  cases z with
  | false => rfl
  | true => exact absurd (hz.1 rfl) h

theorem take_ext {α : Type} {a b : List α} {j : Nat} {x y : α} (h : a.take j = b.take j) (ha : a[j]? = some x) (hb : b[j]? = some y) (e : x = y) : a.take (j + 1) = b.take (j + 1) := by
  rw [List.take_add_one, List.take_add_one, h, ha, hb, e]

set_option maxRecDepth 100000 in
set_option maxHeartbeats 1000000 in
theorem sameP_ok {w : World} {a b : Value} {ps qs : List (Int × Int)} (ha : PV w a ps) (hb : PV w b qs) (z : Bool) (hz : z = true ↔ ps = qs) :
    Calls Tryz.prog 40 #[a, b] w fun e w' => e = .returned (.bool z) ∧ Below w.heap.size w w' := by
  obtain ⟨aa, an, ac, rfl, hA, _, a1, a2⟩ := ha
  obtain ⟨ba, bn, bc, rfl, hB, _, b1, b2⟩ := hb
  have hal := hA.len
  have hbl := hB.len
  have h0 := hid (Below.refl w.heap.size w)
  by_cases hn : an = bn
  · subst hn
    have t1 : ((an : Int) != (an : Int)) = false := by simp
    have hall := hid (fun (h : ps.take an = qs.take an) => hz.2 (by rw [← List.take_length (l := ps), ← List.take_length (l := qs), hal, hbl]; exact h))
    have hnot := hid (fun (j : Nat) (x y : Int × Int) (h1 : ps[j]? = some x) (h2 : qs[j]? = some y) (h : x ≠ y) => bool_no hz (fun e => h (Option.some.inj ((h1.symm.trans (by rw [e])).trans h2))))
    replace hA := hid hA
    replace hB := hid hB
    replace hal := hid hal
    replace hbl := hid hbl
    clear hz
    go_enter Tryz.func40, Tryz.ntmps40
    go_wp2_with fail
    go_loopw [5] (fun u wr => ∃ j : Nat, j ≤ an ∧ u = .int .i64 (j : Int) ∧ Hid (ps.take j = qs.take j) ∧ Hid (Below w.heap.size w wr)) (fun u _ => an - (intOf u).toNat)
    case atStart => exact ⟨0, by omega, by go_num, rfl, h0.out⟩
    case round =>
      obtain ⟨j, hj, rfl, htk, hbr⟩ := hrel
      rcases Nat.lt_or_ge j an with hlt | hge
      · obtain ⟨⟨x0, x1⟩, hx⟩ : ∃ p, ps[j]? = some p := ⟨_, List.getElem?_eq_getElem (by rw [hal.out]; exact hlt)⟩
        obtain ⟨⟨y0, y1⟩, hy⟩ : ∃ p, qs[j]? = some p := ⟨_, List.getElem?_eq_getElem (by rw [hbl.out]; exact hlt)⟩
        obtain ⟨g, o, rfl, c0, c1⟩ := (hA.out.below hbr.out).cell j _ hx
        obtain ⟨g', o', rfl, c2, c3⟩ := (hB.out.below hbr.out).cell j _ hy
        have j1 : (0 : Int) ≤ (j : Int) := by omega
        have j2 : (j : Int) < (an : Int) := by omega
        have j3 : (j : Int) + 1 ≤ 9223372036854775807 := by unfold maxLen at a2; omega
        dsimp only at c0 c1 c2 c3
        have hx' := hid hx
        have hy' := hid hy
        clear hx hy
        by_cases e0 : x0 = y0
        · subst e0
          have s0 : (x0 != x0) = false := by simp
          by_cases e1 : x1 = y1
          · subst e1
            have s1 : (x1 != x1) = false := by simp
            have hnx := hid (take_ext htk.out hx'.out hy'.out rfl)
            go_wp2_with fail
            go_quiet (fail)
            go_wp2_with fail
            go_roundw
            case rel => exact ⟨j + 1, by omega, by go_num, hnx, hid (belowN hbr.out _)⟩
            case measure => simp [intOf]; omega
          · have s1 : (x1 != y1) = true := by simpa using e1
            obtain rfl := hnot.out j _ _ hx'.out hy'.out (fun e => e1 (Prod.ext_iff.1 e).2)
            go_wp2_with fail
            go_quiet (fail)
            go_wp2_with fail
            go_ret
            exact ⟨rfl, belowN hbr.out _⟩
        · have s0 : (x0 != y0) = true := by simpa using e0
          obtain rfl := hnot.out j _ _ hx'.out hy'.out (fun e => e0 (Prod.ext_iff.1 e).1)
          go_wp2_with fail
          go_quiet (fail)
          go_wp2_with fail
          go_ret
          exact ⟨rfl, belowN hbr.out _⟩
      · obtain rfl : j = an := by omega
        obtain rfl := hall.out htk.out
        go_wp2_with fail
        go_ret
        exact ⟨rfl, hbr.out⟩
  · have t1 : ((an : Int) != (bn : Int)) = true := by simp; omega
    obtain rfl := bool_no hz (fun e => hn (by rw [← hal, ← hbl, e]))
    clear hz hA hB hal hbl
    go_enter Tryz.func40, Tryz.ntmps40
    go_wp2_with fail
    go_ret
    exact ⟨rfl, h0.out⟩

set_option maxRecDepth 100000 in
set_option maxHeartbeats 1000000 in
theorem sameM_ok {w : World} {n n' : Int} {vv ev lv vv' ev' lv' : Value} {m m' : Mo} (hm : Mp w vv ev lv m) (hn : m.n = n) (hm' : Mp w vv' ev' lv' m') (hn' : m'.n = n') (z : Bool) (hz : z = true ↔ m = m') :
    Calls Tryz.prog 19 #[.agg #[.int .i64 n, vv, ev, lv], .agg #[.int .i64 n', vv', ev', lv']] w fun e w' => e = .returned (.bool z) ∧ Below w.heap.size w w' := by
  obtain ⟨la, ln, lc, rfl, hL, l1, l2⟩ := hm.l
  obtain ⟨ka, kn, kc, rfl, hK, k1, k2⟩ := hm'.l
  have hll := hL.len
  have hkl := hK.len
  obtain ⟨w1, hw1⟩ : ∃ w1, w.alloc (.cells #[.int .i64 n, vv, ev, .slice la ln lc] 36) = w1 := ⟨_, rfl⟩
  have n1 := new_of w #[.int .i64 n, vv, ev, .slice la ln lc] 36
  have b1 := balloc w (.cells #[.int .i64 n, vv, ev, .slice la ln lc] 36)
  rw [hw1] at n1 b1
  obtain ⟨w2, hw2⟩ : ∃ w2, w1.alloc (.cells #[.int .i64 n', vv', ev', .slice ka kn kc] 25) = w2 := ⟨_, rfl⟩
  have n2 := new_of w1 #[.int .i64 n', vv', ev', .slice ka kn kc] 25
  have b2 := balloc w1 (.cells #[.int .i64 n', vv', ev', .slice ka kn kc] 25)
  rw [hw2] at n2 b2
  have hw1h := hid hw1
  have hw2h := hid hw2
  have hB2 := hid (b1.trans (b2.mono b1.size))
  have n12 := (b2.block _ (Array.getElem?_eq_some_iff.1 n1).1).trans n1
  have hB : w1.heap.size = w.heap.size + 1 := by rw [← hw1]; simp
  obtain ⟨A, hA⟩ : ∃ A, w.heap.size = A := ⟨_, rfl⟩
  rw [hA] at n12 hB
  rw [hB] at n2
  have cA := hid (fun (y : World) (hy : Below w2.heap.size w2 y) => (hy.block _ (Array.getElem?_eq_some_iff.1 n12).1).trans n12)
  have cB := hid (fun (y : World) (hy : Below w2.heap.size w2 y) => (hy.block _ (Array.getElem?_eq_some_iff.1 n2).1).trans n2)
  have hAh := hid hA
  have hvs := hid (fun (y : World) (hy : Below w.heap.size w y) (s : Bool) (hs : s = true ↔ m.vs = m'.vs) => sameP_ok (hm.vs.below hy) (hm'.vs.below hy) s hs)
  have hes := hid (fun (y : World) (hy : Below w.heap.size w y) (s : Bool) (hs : s = true ↔ m.es = m'.es) => sameP_ok (hm.es.below hy) (hm'.es.below hy) s hs)
  have hmm : Hid (m.n = m'.n → m.vs = m'.vs → m.es = m'.es → m.l = m'.l → m = m') := fun q1 q2 q3 q4 => by
    cases m; cases m'
    simp only [Mo.mk.injEq]
    exact ⟨q1, q2, q3, q4⟩
  replace hz := hid hz
  replace hL := hid hL
  replace hK := hid hK
  replace hll := hid hll
  replace hkl := hid hkl
  replace hn := hid hn
  replace hn' := hid hn'
  clear hm hm' hw1 hw2 b1 b2 n1 n2 n12 hA hB
  have hret := hid (fun (y : World) (hy : Below w2.heap.size w2 y) => hB2.out.trans (hy.mono hB2.out.size))
  obtain ⟨q0, q1, q2, q3⟩ : (w2.cell? ⟨A, 0, none⟩ = some (.int .i64 n) ∧ w2.cell? ⟨A, 1, none⟩ = some vv ∧ w2.cell? ⟨A, 2, none⟩ = some ev ∧ w2.cell? ⟨A, 3, none⟩ = some (.slice la ln lc)) := by
    have h0 := cA.out w2 (Below.refl _ _)
    exact ⟨cell_of h0 rfl, cell_of h0 rfl, cell_of h0 rfl, cell_of h0 rfl⟩
  obtain ⟨r0, r1, r2, r3⟩ : (w2.cell? ⟨A + 1, 0, none⟩ = some (.int .i64 n') ∧ w2.cell? ⟨A + 1, 1, none⟩ = some vv' ∧ w2.cell? ⟨A + 1, 2, none⟩ = some ev' ∧ w2.cell? ⟨A + 1, 3, none⟩ = some (.slice ka kn kc)) := by
    have h0 := cB.out w2 (Below.refl _ _)
    exact ⟨cell_of h0 rfl, cell_of h0 rfl, cell_of h0 rfl, cell_of h0 rfl⟩
  by_cases e1 : n = n'
  · subst e1
    have t1 : (n != n) = false := by simp
    by_cases e2 : m.vs = m'.vs
    · by_cases e3 : m.es = m'.es
      · by_cases e4 : ln = kn
        · subst e4
          have t4 : ((ln : Int) != (ln : Int)) = false := by simp
          have hall := hid (fun (h : m.l.take ln = m'.l.take ln) => hz.out.2 (hmm.out (hn.out.trans hn'.out.symm) e2 e3 (by rw [← List.take_length (l := m.l), ← List.take_length (l := m'.l), hll.out, hkl.out]; exact h)))
          have hnot := hid (fun (j : Nat) (x y : Eg) (h1 : m.l[j]? = some x) (h2 : m'.l[j]? = some y) (h : x ≠ y) => bool_no hz.out (fun e => h (Option.some.inj ((h1.symm.trans (by rw [e])).trans h2))))
          have e2h := hid e2
          have e3h := hid e3
          clear e2 e3 hz hmm
          go_enter Tryz.func19, Tryz.ntmps19
          go_upto_region 1 with fail
          rw [hw1h.out, hw2h.out, hAh.out]
          go_wp2_with fail
          refine (hvs.out _ hB2.out true (by simp [e2h.out])).mono ?_
          rintro e w3 ⟨rfl, b3⟩
          obtain ⟨q1', q2', q3'⟩ : (w3.cell? ⟨A, 1, none⟩ = some vv ∧ w3.cell? ⟨A, 2, none⟩ = some ev ∧ w3.cell? ⟨A, 3, none⟩ = some (.slice la ln lc)) := by
            have h0 := cA.out w3 b3
            exact ⟨cell_of h0 rfl, cell_of h0 rfl, cell_of h0 rfl⟩
          obtain ⟨r1', r2', r3'⟩ : (w3.cell? ⟨A + 1, 1, none⟩ = some vv' ∧ w3.cell? ⟨A + 1, 2, none⟩ = some ev' ∧ w3.cell? ⟨A + 1, 3, none⟩ = some (.slice ka ln kc)) := by
            have h0 := cB.out w3 b3
            exact ⟨cell_of h0 rfl, cell_of h0 rfl, cell_of h0 rfl⟩
          replace b3 := hid b3
          clear q0 q1 q2 q3 r0 r1 r2 r3
          go_wp2_with fail
          refine (hes.out _ (hret.out _ b3.out) true (by simp [e3h.out])).mono ?_
          rintro e w4 ⟨rfl, b4⟩
          replace b4 := hid (b3.out.trans (b4.mono b3.out.size))
          have q3'' : w4.cell? ⟨A, 3, none⟩ = some (.slice la ln lc) := cell_of (cA.out w4 b4.out) rfl
          have r3'' : w4.cell? ⟨A + 1, 3, none⟩ = some (.slice ka ln kc) := cell_of (cB.out w4 b4.out) rfl
          clear q1' q2' q3' r1' r2' r3' b3
          go_wp2_with fail
          go_loopw [5] (fun u wr => ∃ j : Nat, j ≤ ln ∧ u = .int .i64 (j : Int) ∧ Hid (m.l.take j = m'.l.take j) ∧ Hid (Below w2.heap.size w2 wr)) (fun u _ => ln - (intOf u).toNat)
          case atStart => exact ⟨0, by omega, by go_num, rfl, b4⟩
          case round =>
            obtain ⟨j, hj, rfl, htk, hbr⟩ := hrel
            clear q3'' r3''
            have q3'' : wr.cell? ⟨A, 3, none⟩ = some (.slice la ln lc) := cell_of (cA.out wr hbr.out) rfl
            have r3'' : wr.cell? ⟨A + 1, 3, none⟩ = some (.slice ka ln kc) := cell_of (cB.out wr hbr.out) rfl
            rcases Nat.lt_or_ge j ln with hlt | hge
            · obtain ⟨x, hx⟩ : ∃ p, m.l[j]? = some p := ⟨_, List.getElem?_eq_getElem (by rw [hll.out]; exact hlt)⟩
              obtain ⟨y, hy⟩ : ∃ p, m'.l[j]? = some p := ⟨_, List.getElem?_eq_getElem (by rw [hkl.out]; exact hlt)⟩
              obtain ⟨g, o, rfl, x0, x1, x2, x3, x4⟩ := (hL.out.below (hret.out _ hbr.out)).cell j _ hx
              obtain ⟨g', o', rfl, y0, y1, y2, y3, y4⟩ := (hK.out.below (hret.out _ hbr.out)).cell j _ hy
              have j1 : (0 : Int) ≤ (j : Int) := by omega
              have j2 : (j : Int) < (ln : Int) := by omega
              have j3 : (j : Int) + 1 ≤ 9223372036854775807 := by unfold maxLen at l2; omega
              have hx' := hid hx
              have hy' := hid hy
              clear hx hy
              by_cases e0 : x = y
              · subst e0
                have hnx := hid (take_ext htk.out hx'.out hy'.out rfl)
                have he1 : ∀ w, (Op.equalIn 10000 72 (.agg #[.int .u32 (x.f0 : Int), .int .u32 (x.f1 : Int), .int .u32 (x.n0 : Int), .int .u32 (x.n1 : Int), .int .i32 x.w]) (.agg #[.int .u32 (x.f0 : Int), .int .u32 (x.f1 : Int), .int .u32 (x.n0 : Int), .int .u32 (x.n1 : Int), .int .i32 x.w])).run Tryz.prog w = .ok true w := fun w => eg_eq x x true (by simp) w
                go_wp2_with fail
                go_quiet (fail)
                go_wp2_with fail
                go_roundw
                case rel => exact ⟨j + 1, by omega, by go_num, hnx, hid (belowN hbr.out _)⟩
                case measure => simp [intOf]; omega
              · obtain rfl := hnot.out j _ _ hx'.out hy'.out e0
                have he1 : ∀ w, (Op.equalIn 10000 72 (.agg #[.int .u32 (x.f0 : Int), .int .u32 (x.f1 : Int), .int .u32 (x.n0 : Int), .int .u32 (x.n1 : Int), .int .i32 x.w]) (.agg #[.int .u32 (y.f0 : Int), .int .u32 (y.f1 : Int), .int .u32 (y.n0 : Int), .int .u32 (y.n1 : Int), .int .i32 y.w])).run Tryz.prog w = .ok false w := fun w => eg_eq x y false (by simp [e0]) w
                clear e0
                go_wp2_with fail
                go_quiet (fail)
                go_wp2_with fail
                go_ret
                exact ⟨rfl, hret.out _ (belowN hbr.out _)⟩
            · obtain rfl : j = ln := by omega
              obtain rfl := hall.out htk.out
              go_wp2_with fail
              go_ret
              exact ⟨rfl, hret.out _ hbr.out⟩
        · have t4 : ((ln : Int) != (kn : Int)) = true := by simp; omega
          obtain rfl := bool_no hz.out (fun e => e4 (by rw [← hll.out, ← hkl.out, e]))
          have e2h := hid e2
          have e3h := hid e3
          clear e2 e3 hz hmm
          go_enter Tryz.func19, Tryz.ntmps19
          go_upto_region 1 with fail
          rw [hw1h.out, hw2h.out, hAh.out]
          go_wp2_with fail
          refine (hvs.out _ hB2.out true (by simp [e2h.out])).mono ?_
          rintro e w3 ⟨rfl, b3⟩
          obtain ⟨q1', q2', q3'⟩ : (w3.cell? ⟨A, 1, none⟩ = some vv ∧ w3.cell? ⟨A, 2, none⟩ = some ev ∧ w3.cell? ⟨A, 3, none⟩ = some (.slice la ln lc)) := by
            have h0 := cA.out w3 b3
            exact ⟨cell_of h0 rfl, cell_of h0 rfl, cell_of h0 rfl⟩
          obtain ⟨r1', r2', r3'⟩ : (w3.cell? ⟨A + 1, 1, none⟩ = some vv' ∧ w3.cell? ⟨A + 1, 2, none⟩ = some ev' ∧ w3.cell? ⟨A + 1, 3, none⟩ = some (.slice ka kn kc)) := by
            have h0 := cB.out w3 b3
            exact ⟨cell_of h0 rfl, cell_of h0 rfl, cell_of h0 rfl⟩
          replace b3 := hid b3
          clear q0 q1 q2 q3 r0 r1 r2 r3
          go_wp2_with fail
          refine (hes.out _ (hret.out _ b3.out) true (by simp [e3h.out])).mono ?_
          rintro e w4 ⟨rfl, b4⟩
          replace b4 := hid (b3.out.trans (b4.mono b3.out.size))
          have q3'' : w4.cell? ⟨A, 3, none⟩ = some (.slice la ln lc) := cell_of (cA.out w4 b4.out) rfl
          have r3'' : w4.cell? ⟨A + 1, 3, none⟩ = some (.slice ka kn kc) := cell_of (cB.out w4 b4.out) rfl
          clear q1' q2' q3' r1' r2' r3' b3
          go_wp2_with fail
          go_ret
          exact ⟨rfl, hret.out _ b4.out⟩
      · obtain rfl := bool_no hz.out (fun e => e3 (by rw [e]))
        have e2h := hid e2
        have e3h := hid e3
        clear e2 e3 hz hmm
        go_enter Tryz.func19, Tryz.ntmps19
        go_upto_region 1 with fail
        rw [hw1h.out, hw2h.out, hAh.out]
        go_wp2_with fail
        refine (hvs.out _ hB2.out true (by simp [e2h.out])).mono ?_
        rintro e w3 ⟨rfl, b3⟩
        obtain ⟨q1', q2', q3'⟩ : (w3.cell? ⟨A, 1, none⟩ = some vv ∧ w3.cell? ⟨A, 2, none⟩ = some ev ∧ w3.cell? ⟨A, 3, none⟩ = some (.slice la ln lc)) := by
          have h0 := cA.out w3 b3
          exact ⟨cell_of h0 rfl, cell_of h0 rfl, cell_of h0 rfl⟩
        obtain ⟨r1', r2', r3'⟩ : (w3.cell? ⟨A + 1, 1, none⟩ = some vv' ∧ w3.cell? ⟨A + 1, 2, none⟩ = some ev' ∧ w3.cell? ⟨A + 1, 3, none⟩ = some (.slice ka kn kc)) := by
          have h0 := cB.out w3 b3
          exact ⟨cell_of h0 rfl, cell_of h0 rfl, cell_of h0 rfl⟩
        replace b3 := hid b3
        clear q0 q1 q2 q3 r0 r1 r2 r3
        go_wp2_with fail
        refine (hes.out _ (hret.out _ b3.out) false (by simp [e3h.out])).mono ?_
        rintro e w4 ⟨rfl, b4⟩
        replace b4 := hid (b3.out.trans (b4.mono b3.out.size))
        go_wp2_with fail
        go_ret
        exact ⟨rfl, hret.out _ b4.out⟩
    · obtain rfl := bool_no hz.out (fun e => e2 (by rw [e]))
      have e2h := hid e2
      clear e2 hz hmm
      go_enter Tryz.func19, Tryz.ntmps19
      go_upto_region 1 with fail
      rw [hw1h.out, hw2h.out, hAh.out]
      go_wp2_with fail
      refine (hvs.out _ hB2.out false (by simp [e2h.out])).mono ?_
      rintro e w3 ⟨rfl, b3⟩
      replace b3 := hid b3
      go_wp2_with fail
      go_ret
      exact ⟨rfl, hret.out _ b3.out⟩
  · have t1 : (n != n') = true := by simpa using e1
    obtain rfl := bool_no hz.out (fun e => e1 (by rw [← hn.out, ← hn'.out, e]))
    clear hz hmm
    go_enter Tryz.func19, Tryz.ntmps19
    go_upto_region 1 with fail
    rw [hw1h.out, hw2h.out, hAh.out]
    go_wp2_with fail
    go_ret
    exact ⟨rfl, hB2.out⟩

end Go.Proofs.YtboafgimjadboaaGreatDoor

namespace Go.Proofs.YtboafgimjadboaaGreatDoor
open Go.RowKit
set_option linter.unusedVariables false

theorem ecs_one (l : List Eg) : ∀ u ∈ ecs l, u.oneCell' = true := by
  induction l with
  | nil => intro u hu; simp [ecs] at hu
  | cons x l ih =>
    intro u hu
    simp only [ecs, List.mem_cons] at hu
    rcases hu with rfl | rfl | rfl | rfl | rfl | hu
    · rfl
    · rfl
    · rfl
    · rfl
    · rfl
    · exact ih u hu

end Go.Proofs.YtboafgimjadboaaGreatDoor

namespace Go.Proofs.YtboafgimjadboaaGreatDoor
open Go.RowKit
set_option linter.unusedVariables false

/-- A model that was boxed. -/
theorem mp_slices {w : World} {vv ev lv : Value} {m : Mo} (h : Mp w vv ev lv m) : ∃ va vn vc ea en ec la ln lc, vv = .slice va vn vc ∧ ev = .slice ea en ec ∧ lv = .slice la ln lc := by
  obtain ⟨va, vn, vc, e1, _⟩ := h.vs
  obtain ⟨ea, en, ec, e2, _⟩ := h.es
  obtain ⟨la, ln, lc, e3, _⟩ := h.l
  exact ⟨va, vn, vc, ea, en, ec, la, ln, lc, e1, e2, e3⟩

theorem Mp.en {w : World} {vv ev lv : Value} {m : Mo} (h : Mp w vv ev lv m) : ∀ x, x ∈ m.l → En x := by
  obtain ⟨_, _, _, _, hL, _⟩ := h.l
  exact fun x hx => hL.num x hx

/-- What a law holds of its argument, whatever came. -/
structure Lw (W w1 : World) (A : Nat) (vv ev lv : Value) (m : Mo) : Prop where
  bel : Below W.heap.size W w1
  box : ∀ y, Below w1.heap.size w1 y → Bxd y A m.n vv ev lv
  mp : ∀ y, Below w1.heap.size w1 y → Mp y vv ev lv m
  sure : ∀ y, Below w1.heap.size w1 y → Calls Tryz.prog 10 #[] y fun e w' => e = .returned (.bool true) ∧ Below y.heap.size y w'
  tab : ∀ y, Below w1.heap.size w1 y → Ar.Tab y
  hnd : ∀ y, Below w1.heap.size w1 y → Handle y
  two : ∀ y, Below w1.heap.size w1 y → 2 ≤ y.heap.size

theorem Lw.new {W : World} {vv ev lv : Value} {m : Mo} (hm : Mp W vv ev lv m) (hg : Handle W) (hT : Ar.Tab W) (h2 : 2 ≤ W.heap.size) : Lw W (W.alloc (.cells #[.int .i64 m.n, vv, ev, lv] 25)) W.heap.size vv ev lv m := by
  have hb := balloc W (.cells #[.int .i64 m.n, vv, ev, lv] 25)
  have up : ∀ y, Below (W.alloc (.cells #[.int .i64 m.n, vv, ev, lv] 25)).heap.size (W.alloc (.cells #[.int .i64 m.n, vv, ev, lv] 25)) y → Below W.heap.size W y := fun y hy => hb.trans (hy.mono hb.size)
  exact ⟨hb, (boxd W m.n vv ev lv 25).out, fun y hy => hm.below (up y hy), fun y hy => sure17_ok y (tab_below hT (up y hy)) (Nat.le_trans h2 (up y hy).size), fun y hy => tab_below hT (up y hy), fun y hy => hg.below (up y hy), fun y hy => Nat.le_trans h2 (up y hy).size⟩

/-- It is huge, or it is not. -/
def Hg (m : Mo) : Prop := 40 < m.vs.length ∨ 40 < m.es.length ∨ 40 < m.l.length ∨ 60 < m.n ∧ m.n ≤ 1048576
instance (m : Mo) : Decidable (Hg m) := by unfold Hg; infer_instance
theorem Lw.enc {W w1 : World} {A : Nat} {vv ev lv uv ue ul : Value} {m : Mo} (h : Lw W w1 A vv ev lv m) (hh : ¬ Hg m) (y : World) (hy : Below w1.heap.size w1 y) (hm : Mp y uv ue ul m) :
    Calls Tryz.prog 17 #[.agg #[.int .i64 m.n, uv, ue, ul]] y fun e w' => Below y.heap.size y w' ∧ ((May m ∧ ∃ u, e = .returned (.tuple #[u, .nilIface]) ∧ Bw y.heap.size w' u (enc m)) ∨ (¬ May m ∧ e = .returned (.tuple #[.slice none 0 0, .iface 67 (.int .i64 17)]))) := by
  unfold Hg at hh
  exact encode_ok hm rfl (h.tab y hy) (h.two y hy) (by omega) (by omega) (by omega)
theorem Lw.len {m : Mo} (hh : ¬ Hg m) : 12 ≤ (Go.Proofs.YtboafgimjadboaaGreatDoor.enc m).length ∧ (Go.Proofs.YtboafgimjadboaaGreatDoor.enc m).length ≤ 1212 := by
  have := enc_len m
  unfold Hg at hh
  omega
end Go.Proofs.YtboafgimjadboaaGreatDoor
