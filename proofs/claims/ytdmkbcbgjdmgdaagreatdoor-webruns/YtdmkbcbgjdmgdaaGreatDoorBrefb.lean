/- The reference's Split and Merge, walked. The reference's Merge and Apart, walked. -/
import Derived.Test.YtdmkbcbgjdmgdaaGreatDoorBref
namespace Go.Proofs.YtdmkbcbgjdmgdaaGreatDoor
open Go.RowKit
set_option linter.unusedVariables false

section
variable {K : Nat} {ls : List (List Nat)} {seq : Nat → List Nat}

theorem rfrom_rot (p : Part K seq) {a k : Nat} {y : World} {g o c nl : Nat} (hRo : Ro y (.slice (some ⟨g, o, none⟩) nl c) (seq (a + 1))) (hk : (seq (a + 1))[k]? = some (a + 1)) (hnl : (seq (a + 1)).length = nl) (hfew : nl ≤ 1000000) :
    Calls Tryz.prog 69 #[.slice (some ⟨g, o, none⟩) nl c, .int .i64 (k : Int)] y fun e w' => ∃ g3 c3, e = .returned (.slice (some ⟨g3, 0, none⟩) nl c3) ∧ nl ≤ c3 ∧ c3 ≤ maxLen ∧ w'.ownsRow y.heap.size 3 1 (.slice (some ⟨g3, 0, none⟩) nl c3) nl ((rot (seq (a + 1)) (a + 1)).map itm) ∧ Ib w' g3 0 (rot (seq (a + 1)) (a + 1)) ∧ Below y.heap.size y w' := by
  have hkl := (List.getElem?_eq_some_iff.1 hk).1
  have hnR : (rot (seq (a + 1)) (a + 1)).length = nl := by rw [rot_len, hnl]
  have hRne : rot (seq (a + 1)) (a + 1) ≠ [] := fun e => by rw [e] at hnR; simp at hnR; omega
  refine (rfrom_ok _ _ k y hRo hkl (by omega)).mono ?_
  rintro e w' ⟨v, rfl, ho, hb⟩
  rw [rot_from p (by omega) hk] at ho
  obtain ⟨g3, o3, c3, rfl, h1, h2, h3⟩ := ro_of_own ho hRne
  rcases ho.2 with ⟨e, _⟩ | ⟨g4, c4, _, e, _⟩
  · cases e
  · injection e with e1 e2 e3
    injection e1 with e1
    injection e1 with e1 e4
    subst e4
    rw [hnR] at ho h1 ⊢
    exact ⟨g3, c3, rfl, h1, h2, ho, h3, hb⟩

/-- A slice of a row, in a world further on. -/
theorem ro_cut {w w' : World} {g : Nat} {l : List Nat} (h : Ib w g 0 l) (hb : Below w.heap.size w w') (j c : Nat) (hj : j ≤ l.length) (hl : l.length ≤ c) (hc : c ≤ maxLen) : Ro w' (.slice (some ⟨g, 0, none⟩) j j) (l.take j) ∧ Ro w' (.slice (some ⟨g, j, none⟩) (l.length - j) (c - j)) (l.drop j) := by
  obtain ⟨p1, p2⟩ := Ro.parts (cap := c) (M := j) (h.keep (Keep.ofBelow hb)) j
  have e1 : (l.take j).length = j := by rw [List.length_take]; omega
  have e2 : (l.drop j).length = l.length - j := by rw [List.length_drop]
  rw [Nat.zero_add] at p2
  exact ⟨⟨g, 0, j, by rw [e1], by omega, by unfold maxLen at *; omega, p1⟩, ⟨g, j, c - j, by rw [e2], by omega, by unfold maxLen at *; omega, p2⟩⟩

set_option maxRecDepth 100000 in
set_option maxHeartbeats 1000000 in
theorem rsplit_self (x : Value) (a : Nat) (w : World) (hx : Rf w x ls) (t : Tie K ls seq) (p : Part K seq) (hK : K ≤ 1000) (ha : a < K) :
    Calls Tryz.prog 64 #[x, .int .i64 (a : Int), .int .i64 (a : Int)] w fun e w' => e = .returned (.tuple #[x, .int .i64 20]) ∧ w = w' := by
  have hf := hid (hx.find t p hK a ha)
  go_enter Tryz.func64, Tryz.ntmps64
  go_wp2_with fail
  refine hf.out.mono ?_
  rintro e w1 ⟨i, k, rfl, _, _, rfl⟩
  go_wp2_with fail
  refine hf.out.mono ?_
  rintro e w1 ⟨j, m, rfl, _, _, rfl⟩
  go_wp2_with fail
  go_ret2
  exact ⟨rfl, rfl⟩

set_option maxRecDepth 100000 in
set_option maxHeartbeats 1000000 in
theorem rsplit_apart (x : Value) (a b : Nat) (w : World) (hx : Rf w x ls) (t : Tie K ls seq) (p : Part K seq) (hK : K ≤ 1000) (ha : a < K) (hb : b < K) (hin : b + 1 ∉ seq (a + 1)) :
    Calls Tryz.prog 64 #[x, .int .i64 (a : Int), .int .i64 (b : Int)] w fun e w' => e = .returned (.tuple #[x, .int .i64 21]) ∧ w = w' := by
  have hf := hid (hx.find t p hK a ha)
  have hg := hid (hx.find t p hK b hb)
  have hab : a ≠ b := fun e => hin (by rw [e]; exact p.self _ (by omega))
  have t1 : ((a : Int) == (b : Int)) = false := by rw [beq_eq_false_iff_ne]; omega
  replace hin := hid hin
  go_enter Tryz.func64, Tryz.ntmps64
  go_wp2_with fail
  refine hf.out.mono ?_
  rintro e w1 ⟨i, k, rfl, hi, _, rfl⟩
  go_wp2_with fail
  refine hg.out.mono ?_
  rintro e w1 ⟨j, m, rfl, hj, _, rfl⟩
  have hij : i ≠ j := fun e => by
    rw [e, hj] at hi
    injection hi with hi
    exact hin.out (by rw [← hi]; exact p.self _ (by omega))
  have t2 : ((i : Int) != (j : Int)) = true := by rw [bne_iff_ne]; omega
  clear hi hj
  go_wp2_with fail
  go_ret2
  exact ⟨rfl, rfl⟩

set_option maxRecDepth 100000 in
set_option maxHeartbeats 4000000 in
theorem rsplit_ok (x : Value) (a b : Nat) (w : World) (hx : Rf w x ls) (t : Tie K ls seq) (p : Part K seq) (hK : K ≤ 1000) (ha : a < K) (hb : b < K) (hab : a ≠ b) (hin : b + 1 ∈ seq (a + 1)) :
    Calls Tryz.prog 64 #[x, .int .i64 (a : Int), .int .i64 (b : Int)] w fun e w' => ∃ x' ls', e = .returned (.tuple #[x', .int .i64 0]) ∧ Rf w' x' ls' ∧ Tie K ls' (splS seq (a + 1) (b + 1)) ∧ Below w.heap.size w w' := by
  obtain ⟨i1, hif, hz0, hz1, hz2⟩ := info_parts infoInts
  have hf := hid (hx.find t p hK a ha)
  have hg := hid (hx.find t p hK b hb)
  have t1 : ((a : Int) == (b : Int)) = false := by rw [beq_eq_false_iff_ne]; omega
  have hlen := t.len
  have hxr : Hid (∀ y, Below w.heap.size w y → Rf y x ls) := hid (fun y hy => hx.below hy)
  obtain ⟨bo, cap, rfl, hop⟩ := hx.opened
  obtain ⟨M, hM⟩ : ∃ M, ls.length = M := ⟨_, rfl⟩
  have hMh := hid hM
  rw [hM] at hf hg hlen hxr ⊢
  obtain ⟨P, Q, hR, hP⟩ := rot_parts p (show a + 1 ≠ 0 by omega) (show a + 1 ≠ b + 1 by omega) hin
  have hsame := (p.mem (a + 1) (b + 1) (by omega) hin).1
  have hfew := p.few (x := a + 1) (by omega) (by omega)
  obtain ⟨nl, hnl⟩ : ∃ nl, (seq (a + 1)).length = nl := ⟨_, rfl⟩
  have hnR : (rot (seq (a + 1)) (a + 1)).length = nl := by rw [rot_len, hnl]
  have hnPQ : nl = P.length + 1 + (Q.length + 1) := by rw [← hnR, hR]; simp; omega
  rw [hnl] at hfew
  replace hsame := hid hsame
  clear hM
  go_enter Tryz.func64, Tryz.ntmps64
  go_wp2_with fail
  refine hf.out.mono ?_
  rintro e w1 ⟨i, k, rfl, hi, hk, rfl⟩
  go_wp2_with fail
  refine hg.out.mono ?_
  rintro e w1 ⟨j, m, rfl, hj, _, rfl⟩
  obtain rfl : i = j := t.alone hi (by rw [← hsame.out]; exact hj)
  clear hj hf hg
  have hil := (List.getElem?_eq_some_iff.1 hi).1
  obtain ⟨g, o, c, hc1, hc2, hcy⟩ := hop i _ hi
  rw [hnl] at hcy
  obtain ⟨cell, hRo, _⟩ := hcy w (Below.refl _ _)
  have hfr := hid (rfrom_rot p hRo hk hnl (by omega))
  have htie := hid (t.split p (show a + 1 ≠ 0 by omega) (by omega) hi hR)
  have hwl : (wo ls i i).length ≤ 1000 := by have := wo_len ls i i; have := hMh.out; omega
  have hnz : Hid (∀ z ∈ rot (seq (a + 1)) (a + 1), z ≠ 0) := hid (fun z hz => (p.mem (a + 1) z (by omega) (rot_mem.1 hz)).2)
  have hRh := hid hR
  have hPh := hid hP
  have hnRh := hid hnR
  obtain ⟨at0, hat0⟩ : ∃ q, P.length + 1 = q := ⟨_, rfl⟩
  have hcut : Hid ((rot (seq (a + 1)) (a + 1)).take at0 = (a + 1) :: P ∧ (rot (seq (a + 1)) (a + 1)).drop at0 = (b + 1) :: Q) := hid (by
    rw [hR, ← hat0]
    constructor
    · rw [List.take_append_of_le_length (by simp), List.take_of_length_le (by simp)]
    · rw [List.drop_append_of_le_length (by simp), List.drop_of_length_le (by simp)]; rfl)
  have hbit : Hid (∀ q, q < at0 → ∀ z, (rot (seq (a + 1)) (a + 1))[q]? = some z → z ≠ b + 1) := hid (fun q hq z hz e => by
    rw [hR, List.getElem?_append_left (by simp; omega)] at hz
    exact hP (e ▸ List.mem_of_getElem? hz))
  have hhit : Hid ((rot (seq (a + 1)) (a + 1))[at0]? = some (b + 1)) := hid (by
    rw [hR, ← hat0, List.getElem?_append_right (by simp)]; simp)
  have hatn : at0 < nl := by omega
  have hat1 : 1 ≤ at0 := by omega
  have q1 : (0 : Int) ≤ (i : Int) := by omega
  have q2 : (i : Int) < (M : Int) := by have := hMh.out; omega
  have hcell := hid (fun y hy => (hcy y hy).1)
  clear hop hcy hRo hi hk hin hR hP hnR hnl hnPQ hat0 hil
  go_wp2_with fail
  refine hfr.out.mono ?_
  rintro e w3 ⟨g3, c3, rfl, hd1, hd2, ho3, hI3, b3⟩
  have c3n : c3 ≤ 9223372036854775807 := by unfold maxLen at hd2; omega
  have hI3h := hid hI3
  have hwi : Hid (∀ y, Below w3.heap.size w3 y → Calls Tryz.prog 95 #[.slice (some ⟨bo, 0, none⟩) M cap, .int .i64 (i : Int), .int .i64 (i : Int)] y fun e w' => ∃ v, e = .returned v ∧ Rg w' y.heap.size v (wo ls i i) ∧ Below y.heap.size y w') := hid (fun y hy => rwithout_ok _ ls i i y (hxr.out y (b3.trans (hy.mono b3.size))) (by have := hMh.out; omega) (by have := hMh.out; omega) (by have := hMh.out; omega))
  replace b3 := hid b3
  clear hfr ho3 hI3 cell
  go_wp2_with fail
  go_loopw [13] (fun u wr => ∃ q : Nat, q ≤ at0 ∧ u = .int .i64 (q : Int) ∧ w3 = wr) (fun u _ => at0 - (intOf u).toNat)
  case atStart => exact ⟨0, by omega, by go_num, rfl⟩
  case round =>
    obtain ⟨q, hq, rfl, rfl⟩ := hrel
    have k1 : (0 : Int) ≤ (q : Int) := by omega
    have k2 : (q : Int) < (nl : Int) := by omega
    rcases Nat.lt_or_ge q at0 with hql | hqg
    · obtain ⟨z, hz⟩ : ∃ z, (rot (seq (a + 1)) (a + 1))[q]? = some z := ⟨_, List.getElem?_eq_getElem (by rw [hnRh.out]; omega)⟩
      have hzn := hnz.out z (List.mem_of_getElem? hz)
      have hzb := hbit.out q hql z hz
      obtain ⟨y, rfl⟩ : ∃ y, z = y + 1 := ⟨z - 1, by omega⟩
      have cc := hI3h.out.cell hz
      rw [Nat.zero_add, show itm (y + 1) = .int .i64 (y : Int) from by unfold itm; congr 1; omega] at cc
      have u1 : ((y : Int) != (b : Int)) = true := by rw [bne_iff_ne]; omega
      clear hz
      go_wp2_with fail
      go_roundw
      case rel => exact ⟨q + 1, by omega, by go_num, by trivial⟩
      case measure => simp [intOf]; omega
    · obtain rfl : q = at0 := by omega
      have cc := hI3h.out.cell hhit.out
      rw [Nat.zero_add, show itm (b + 1) = .int .i64 (b : Int) from by unfold itm; congr 1; omega] at cc
      have e2 : (q : Int) ≤ (nl : Int) := by omega
      have e3 : (q : Int) ≤ (c3 : Int) := by omega
      have e4 : c3 ≠ q := by omega
      have bd := b3.out.drew
      go_wp2_with fail
      have hcutf : Hid (∀ y, Below w3.heap.size w3 y → Ro y (.slice (some ⟨g3, 0, none⟩) q q) ((a + 1) :: P) ∧ Ro y (.slice (some ⟨g3, q, none⟩) (nl - q) (c3 - q)) ((b + 1) :: Q)) := hid (fun y hy => by
        have hro := ro_cut hI3h.out hy q c3 (by rw [hnRh.out]; omega) (by rw [hnRh.out]; omega) hd2
        rw [hnRh.out, hcut.out.1, hcut.out.2] at hro
        exact hro)
      have bx : Below w3.heap.size w3 ((w3.alloc (.cells [Value.slice (some ⟨g3, 0, none⟩) q q, Value.slice (some ⟨g3, q, none⟩) (nl - q) (c3 - q)].toArray 47)).drew) := ((Below.refl _ _).alloc (Nat.le_refl _) _).drew
      have hnx : ((w3.alloc (.cells [Value.slice (some ⟨g3, 0, none⟩) q q, Value.slice (some ⟨g3, q, none⟩) (nl - q) (c3 - q)].toArray 47)).drew).heap[w3.heap.size]? = some (.cells [Value.slice (some ⟨g3, 0, none⟩) q q, Value.slice (some ⟨g3, q, none⟩) (nl - q) (c3 - q)].toArray 47 (0, 0)) := heap_alloc_new w3 _
      have hsx : ((w3.alloc (.cells [Value.slice (some ⟨g3, 0, none⟩) q q, Value.slice (some ⟨g3, q, none⟩) (nl - q) (c3 - q)].toArray 47)).drew).heap.size = w3.heap.size + 1 := by simp
      obtain ⟨ws, hws⟩ : ∃ ws, (w3.alloc (.cells [Value.slice (some ⟨g3, 0, none⟩) q q, Value.slice (some ⟨g3, q, none⟩) (nl - q) (c3 - q)].toArray 47)).drew = ws := ⟨_, rfl⟩
      rw [hws] at bx hnx hsx
      replace hws := hid hws
      go_region_held3 (fun w' => True) (first | exact True.intro | assumption | go_keep) (first
        | (go_at_call 95; refine (hwi.out w3.drew (Below.refl _ _).drew).mono ?_; rintro e w4 ⟨v4, rfl, rg4, b4⟩; have b34 : Below w3.heap.size w3 w4 := (Below.refl w3.heap.size w3).drew.trans b4; obtain ⟨us, hus, ho4, hr4⟩ := rg4; have hro := hid (hcutf.out w4 b34); have ba4 : Below w4.heap.size w4 (w4.alloc (.cells [Value.slice (some ⟨g3, 0, none⟩) q q, Value.slice (some ⟨g3, q, none⟩) (nl - q) (c3 - q)].toArray 47)) := (Below.refl _ _).alloc (Nat.le_refl _) _; have hoa := own_more ho4 ba4; have hnews := new_cells (us := [Value.slice (some ⟨g3, 0, none⟩) q q, Value.slice (some ⟨g3, q, none⟩) (nl - q) (c3 - q)]) (heap_alloc_new w4 (.cells [Value.slice (some ⟨g3, 0, none⟩) q q, Value.slice (some ⟨g3, q, none⟩) (nl - q) (c3 - q)].toArray 47)); have hszb : w3.heap.size ≤ (w4.alloc (.cells [Value.slice (some ⟨g3, 0, none⟩) q q, Value.slice (some ⟨g3, q, none⟩) (nl - q) (c3 - q)].toArray 47)).heap.size := Nat.le_trans b34.size ba4.size; have hr4 := hid hr4)
        | (go_at_call 95; (try rw [hws.out]); refine (hwi.out ws bx).mono ?_; rintro e w4 ⟨v4, rfl, rg4, b4⟩; have b34 : Below w3.heap.size w3 w4 := bx.trans (b4.mono bx.size); obtain ⟨us, hus, ho4, hr4⟩ := rg4; have hro := hid (hcutf.out w4 b34); have hnews := new_cells (us := [Value.slice (some ⟨g3, 0, none⟩) q q, Value.slice (some ⟨g3, q, none⟩) (nl - q) (c3 - q)]) ((b4.block w3.heap.size (by omega)).trans hnx); have hr4 := hid hr4; have hszb := b4.size)
        | (refine step_append_own rfl (.tmp 51) (.tmp 59) 29 rfl w3.heap.size 47 i1 _ 1 24 Tryz.underlying29 hif hz0 hz1 hz2 rfl (by decide) v4 (wo ls i i).length us (by rfl) hoa ⟨w4.heap.size, 0, none⟩ 2 2 [Value.slice (some ⟨g3, 0, none⟩) q q, Value.slice (some ⟨g3, q, none⟩) (nl - q) (c3 - q)] (by rfl) rfl hnews (by simp [Value.oneCell']) (by unfold maxLen; omega) (by omega) hszb ?_; intro v5 w5 ho5 hg5; have fin := hid (rows_append (nl := [(a + 1) :: P, (b + 1) :: Q]) (Nat.le_refl w3.heap.size) b34 hus ho4 hr4.out rfl (fun j l u hj hu => (by match j, (List.getElem?_eq_some_iff.1 hj).1, hj, hu with | 0, _, hj, hu => (simp at hj hu; subst hj hu; exact hro.out.1.below ba4) | 1, _, hj, hu => (simp at hj hu; subst hj hu; exact hro.out.2.below ba4))) ba4 ho5 hg5 (by simp)); clear ho5 hg5)
        | (refine step_append_own rfl (.tmp 51) (.tmp 59) 29 rfl ws.heap.size 47 i1 _ 1 24 Tryz.underlying29 hif hz0 hz1 hz2 rfl (by decide) v4 (wo ls i i).length us (by rfl) ho4 ⟨w3.heap.size, 0, none⟩ 2 2 [Value.slice (some ⟨g3, 0, none⟩) q q, Value.slice (some ⟨g3, q, none⟩) (nl - q) (c3 - q)] (by rfl) rfl hnews (by simp [Value.oneCell']) (by unfold maxLen; omega) (by omega) hszb ?_; intro v5 w5 ho5 hg5; have fin0 := rows_append (nl := [(a + 1) :: P, (b + 1) :: Q]) (Nat.le_refl ws.heap.size) b4 hus ho4 hr4.out rfl (fun j l u hj hu => (by match j, (List.getElem?_eq_some_iff.1 hj).1, hj, hu with | 0, _, hj, hu => (simp at hj hu; subst hj hu; exact hro.out.1) | 1, _, hj, hu => (simp at hj hu; subst hj hu; exact hro.out.2))) (Below.refl _ _) ho5 hg5 (by simp); have fin := hid (And.intro fin0.1 (bx.trans (fin0.2.mono bx.size))); clear ho5 hg5 fin0))
      all_goals
        go_wp2_with fail
        go_ret2
        exact ⟨v5, _, rfl, fin.out.1, htie.out, b3.out.trans (fin.out.2.mono b3.out.size)⟩
end

end Go.Proofs.YtdmkbcbgjdmgdaaGreatDoor

namespace Go.Proofs.YtdmkbcbgjdmgdaaGreatDoor
open Go.RowKit
set_option linter.unusedVariables false

theorem own_slice {w : World} {base n : Nat} {v : Value} {l : List Nat} (h : w.ownsRow base 3 1 v n (l.map itm)) (hn : l.length = n) (hl : l ≠ []) : ∃ g c, v = .slice (some ⟨g, 0, none⟩) n c ∧ Ro w (.slice (some ⟨g, 0, none⟩) n c) l := by
  subst hn
  have hRo := ro_of_own h hl
  rcases h.2 with ⟨_, e⟩ | ⟨g, c, _, rfl, _⟩
  · exact absurd (List.eq_nil_of_length_eq_zero e) hl
  · exact ⟨g, c, rfl, hRo⟩

section
variable {K : Nat} {ls : List (List Nat)} {seq : Nat → List Nat}

set_option maxRecDepth 100000 in
set_option maxHeartbeats 1000000 in
theorem rmerge_same (x : Value) (a b : Nat) (w : World) (hx : Rf w x ls) (t : Tie K ls seq) (p : Part K seq) (hK : K ≤ 1000) (ha : a < K) (hb : b < K) (hin : b + 1 ∈ seq (a + 1)) :
    Calls Tryz.prog 67 #[x, .int .i64 (a : Int), .int .i64 (b : Int)] w fun e w' => e = .returned (.tuple #[x, .int .i64 20]) ∧ w = w' := by
  have hf := hid (hx.find t p hK a ha)
  have hg := hid (hx.find t p hK b hb)
  have hsame := hid (p.mem (a + 1) (b + 1) (by omega) hin).1
  go_enter Tryz.func67, Tryz.ntmps67
  go_wp2_with fail
  refine hf.out.mono ?_
  rintro e w1 ⟨i, k, rfl, hi, _, rfl⟩
  go_wp2_with fail
  refine hg.out.mono ?_
  rintro e w1 ⟨j, m, rfl, hj, _, rfl⟩
  obtain rfl : i = j := t.alone hi (by rw [← hsame.out]; exact hj)
  clear hi hj
  go_wp2_with fail
  go_ret2
  exact ⟨rfl, rfl⟩

set_option maxRecDepth 100000 in
set_option maxHeartbeats 4000000 in
theorem rmerge_ok (x : Value) (a b : Nat) (w : World) (hx : Rf w x ls) (t : Tie K ls seq) (p : Part K seq) (hK : K ≤ 1000) (ha : a < K) (hb : b < K) (hin : b + 1 ∉ seq (a + 1)) :
    Calls Tryz.prog 67 #[x, .int .i64 (a : Int), .int .i64 (b : Int)] w fun e w' => ∃ x' ls', e = .returned (.tuple #[x', .int .i64 0]) ∧ Rf w' x' ls' ∧ Tie K ls' (mrgS seq (a + 1) (b + 1)) ∧ Below w.heap.size w w' := by
  obtain ⟨i1, hif, hz0, hz1, hz2⟩ := info_parts infoInts
  obtain ⟨i0, jif, jz0, jz1, jz2⟩ := info_parts infoInt
  have hf := hid (hx.find t p hK a ha)
  have hg := hid (hx.find t p hK b hb)
  have hlen := t.len
  have hxd := hx.below (Below.refl w.heap.size w).drew
  obtain ⟨bo, cap, rfl, hop⟩ := hx.opened
  obtain ⟨M, hM⟩ : ∃ M, ls.length = M := ⟨_, rfl⟩
  have hMh := hid hM
  rw [hM] at hf hg hlen hxd ⊢
  have hfa := p.few (x := a + 1) (by omega) (by omega)
  have hfb := p.few (x := b + 1) (by omega) (by omega)
  obtain ⟨nl, hnl⟩ : ∃ nl, (seq (a + 1)).length = nl := ⟨_, rfl⟩
  obtain ⟨nm, hnm⟩ : ∃ nm, (seq (b + 1)).length = nm := ⟨_, rfl⟩
  rw [hnl] at hfa
  rw [hnm] at hfb
  have hRn : (rot (seq (a + 1)) (a + 1) ++ rot (seq (b + 1)) (b + 1)).length = nl + nm := by rw [List.length_append, rot_len, rot_len, hnl, hnm]
  have hSn : ((rot (seq (b + 1)) (b + 1)).map itm).length = nm * 1 := by rw [List.length_map, rot_len, hnm]; omega
  have hRne : rot (seq (a + 1)) (a + 1) ++ rot (seq (b + 1)) (b + 1) ≠ [] := fun e => by
    have := rot_mem (x := a + 1).2 (p.self (a + 1) (by omega))
    rw [List.append_eq_nil_iff] at e
    rw [e.1] at this
    cases this
  replace hin := hid hin
  clear hM
  go_enter Tryz.func67, Tryz.ntmps67
  go_wp2_with fail
  refine hf.out.mono ?_
  rintro e w1 ⟨i, k, rfl, hi, hk, rfl⟩
  go_wp2_with fail
  refine hg.out.mono ?_
  rintro e w1 ⟨j, m, rfl, hj, hm, rfl⟩
  have hij : i ≠ j := fun e => by
    rw [e, hj] at hi
    injection hi with hi
    exact hin.out (by rw [← hi]; exact p.self _ (by omega))
  have t2 : ((i : Int) == (j : Int)) = false := by rw [beq_eq_false_iff_ne]; omega
  have hil := (List.getElem?_eq_some_iff.1 hi).1
  have hjl := (List.getElem?_eq_some_iff.1 hj).1
  obtain ⟨g, o, c, hc1, hc2, hcy⟩ := hop i _ hi
  obtain ⟨g', o', c', hc1', hc2', hcy'⟩ := hop j _ hj
  rw [hnl] at hcy
  rw [hnm] at hcy'
  have htie := hid (t.merge p (show a + 1 ≠ 0 by omega) (by omega) (show b + 1 ≠ 0 by omega) (by omega) hi hj)
  have hwl : (wo ls i j).length ≤ 1000 := by have := wo_len ls i j; have := hMh.out; omega
  have hwi := hid (rwithout_ok _ ls i j w.drew hxd (by have := hMh.out; omega) (by have := hMh.out; omega) (by have := hMh.out; omega))
  have hfr : Hid (∀ y, Below w.heap.size w y → _) := hid (fun y hy => rfrom_rot p (hcy y hy).2.1 hk hnl (by omega))
  have hfr' : Hid (∀ y, Below w.heap.size w y → _) := hid (fun y hy => rfrom_rot p (hcy' y hy).2.1 hm hnm (by omega))
  have hcell := hid (fun y hy => (hcy y hy).1)
  have hcell' := hid (fun y hy => (hcy' y hy).1)
  have bd := (Below.refl w.heap.size w).drew
  have hcd := hcell.out w.drew bd
  have hcd' := hcell'.out w.drew bd
  have q1 : (0 : Int) ≤ (i : Int) := by omega
  have q2 : (i : Int) < (M : Int) := by have := hMh.out; omega
  have q3 : (0 : Int) ≤ (j : Int) := by omega
  have q4 : (j : Int) < (M : Int) := by have := hMh.out; omega
  have hRnh := hid hRn
  clear hf hg hop hcy hcy' hi hj hk hm hxd hRn hnl hnm hil hjl
  go_wp2_with fail
  go_region_held3 (fun w' => w'.cell? ⟨bo, i, none⟩ = some (.slice (some ⟨g, o, none⟩) nl c) ∧ w'.cell? ⟨bo, j, none⟩ = some (.slice (some ⟨g', o', none⟩) nm c')) (first | assumption | (constructor <;> assumption) | go_keep) (first
    | (go_at_call 95; refine hwi.out.mono ?_; rintro e w2 ⟨v2, rfl, rg2, b2⟩; have B2 := bd.trans b2; have x2 := hcell.out w2 B2; have y2 := hcell'.out w2 B2; have hfr2 := hid (hfr.out w2 B2); have rg2 := hid rg2; have B2 := hid B2)
    | (go_at_call 69; refine hfr2.out.mono ?_; rintro e w3 ⟨g3, c3, rfl, hd1, hd2, ho3, hI3, b3⟩; have B3 : Below w.heap.size w w3 := B2.out.trans (b3.mono B2.out.size); have x3 := hcell.out w3 B3; have y3 := hcell'.out w3 B3; have hfr3 := hid (hfr'.out w3 B3); have B3 := hid B3; clear hfr2)
    | (go_at_call 69; refine hfr3.out.mono ?_; rintro e w4 ⟨g4, c4, rfl, hd3, hd4, ho4, hI4, b4⟩; have B4 : Below w.heap.size w w4 := B3.out.trans (b4.mono B3.out.size); have x4 := hcell.out w4 B4; have y4 := hcell'.out w4 B4; have ho34 := own_more ho3 b4; have s4 := hI4.sl; have hsz4 := Nat.le_trans b3.size b4.size; have b24 : Below w2.heap.size w2 w4 := b3.trans (b4.mono b3.size); have B4 := hid B4)
    | (refine step_append_own rfl (.tmp 37) (.tmp 43) 47 rfl w2.heap.size 3 i0 _ 1 8 Tryz.underlying47 jif jz0 jz1 jz2 rfl (by decide) (.slice (some ⟨g3, 0, none⟩) nl c3) nl ((rot (seq (a + 1)) (a + 1)).map itm) (by rfl) ho34 ⟨g4, 0, none⟩ nm c4 ((rot (seq (b + 1)) (b + 1)).map itm) (by rfl) hSn s4 (itm_one _) (by unfold maxLen; omega) (by omega) hsz4 ?_; intro v5 w5 ho5 hg5; have b25 := below_grown b24 (Nat.le_refl _) ho34 (Nat.le_refl _) hg5; have B5 : Below w.heap.size w w5 := B2.out.trans (b25.mono B2.out.size); have x5 := hcell.out w5 B5; have y5 := hcell'.out w5 B5; rw [← List.map_append] at ho5; obtain ⟨g5, c5, hv5, hRo5⟩ := own_slice ho5 hRnh.out hRne; subst hv5; obtain ⟨us, hus, ho6, hr6⟩ := rg2.out.more b25; have ba5 : Below w5.heap.size w5 (w5.alloc (.cells [Value.slice (some ⟨g5, 0, none⟩) (nl + nm) c5].toArray 47)) := (Below.refl _ _).alloc (Nat.le_refl _) _; have hoa := own_more ho6 ba5; have hnews := new_cells (us := [Value.slice (some ⟨g5, 0, none⟩) (nl + nm) c5]) (heap_alloc_new w5 (.cells [Value.slice (some ⟨g5, 0, none⟩) (nl + nm) c5].toArray 47)); have hszb := Nat.le_trans B5.size ba5.size; have hRo5 := hid hRo5; have hr6 := hid hr6; have B5 := hid B5; clear ho5 hg5)
    | (refine step_append_own rfl (.tmp 31) (.tmp 45) 29 rfl w.heap.size 47 i1 _ 1 24 Tryz.underlying29 hif hz0 hz1 hz2 rfl (by decide) v2 (wo ls i j).length us (by rfl) hoa ⟨w5.heap.size, 0, none⟩ 1 1 [Value.slice (some ⟨g5, 0, none⟩) (nl + nm) c5] (by rfl) rfl hnews (by simp [Value.oneCell']) (by unfold maxLen; omega) (by omega) hszb ?_; intro v6 w6 ho7 hg7; have fin := hid (rows_append (nl := [rot (seq (a + 1)) (a + 1) ++ rot (seq (b + 1)) (b + 1)]) (Nat.le_refl _) B5.out hus ho6 hr6.out rfl (fun j l u hj hu => (by match j, (List.getElem?_eq_some_iff.1 hj).1, hj, hu with | 0, _, hj, hu => (simp at hj hu; subst hj hu; exact hRo5.out.below ba5))) ba5 ho7 hg7 (by simp)); have x6 := hcell.out w6 fin.out.2; have y6 := hcell'.out w6 fin.out.2; clear ho7 hg7))
  all_goals
    go_wp2_with fail
    go_ret2
    exact ⟨v6, _, rfl, fin.out.1, htie.out, fin.out.2⟩

set_option maxRecDepth 100000 in
set_option maxHeartbeats 1000000 in
theorem rapart_alone (x : Value) (a : Nat) (w : World) (hx : Rf w x ls) (t : Tie K ls seq) (p : Part K seq) (hK : K ≤ 1000) (ha : a < K) (h1 : (seq (a + 1)).length = 1) :
    Calls Tryz.prog 65 #[x, .int .i64 (a : Int)] w fun e w' => e = .returned (.tuple #[x, .int .i64 20]) ∧ w = w' := by
  have hf := hid (hx.find t p hK a ha)
  obtain ⟨bo, cap, rfl, hop⟩ := hx.opened
  have hlen := t.len
  obtain ⟨M, hM⟩ : ∃ M, ls.length = M := ⟨_, rfl⟩
  have hMh := hid hM
  rw [hM] at hf hlen ⊢
  clear hM
  go_enter Tryz.func65, Tryz.ntmps65
  go_wp2_with fail
  refine hf.out.mono ?_
  rintro e w1 ⟨i, k, rfl, hi, _, rfl⟩
  have hil := (List.getElem?_eq_some_iff.1 hi).1
  obtain ⟨g, o, c, hc1, hc2, hcy⟩ := hop i _ hi
  rw [h1] at hcy
  have cell := (hcy w (Below.refl _ _)).1
  have q1 : (0 : Int) ≤ (i : Int) := by omega
  have q2 : (i : Int) < (M : Int) := by have := hMh.out; omega
  clear hi hcy hop h1 hc1
  go_wp2_with fail
  go_ret2
  exact ⟨rfl, rfl⟩

set_option maxRecDepth 100000 in
set_option maxHeartbeats 4000000 in
theorem rapart_ok (x : Value) (a d : Nat) (w : World) (hx : Rf w x ls) (t : Tie K ls seq) (p : Part K seq) (hK : K ≤ 1000) (ha : a < K) (h2 : 2 ≤ (seq (a + 1)).length) (hd : (rot (seq (a + 1)) (a + 1))[1]? = some (d + 1)) :
    Calls Tryz.prog 65 #[x, .int .i64 (a : Int)] w fun e w' => ∃ x' ls', e = .returned (.tuple #[x', .int .i64 0]) ∧ Rf w' x' ls' ∧ Tie K ls' (splS seq (a + 1) (d + 1)) ∧ Below w.heap.size w w' := by
  obtain ⟨i1, hif, hz0, hz1, hz2⟩ := info_parts infoInts
  have hf := hid (hx.find t p hK a ha)
  have hlen := t.len
  have hxr : Hid (∀ y, Below w.heap.size w y → Rf y x ls) := hid (fun y hy => hx.below hy)
  obtain ⟨bo, cap, rfl, hop⟩ := hx.opened
  obtain ⟨M, hM⟩ : ∃ M, ls.length = M := ⟨_, rfl⟩
  have hMh := hid hM
  rw [hM] at hf hlen hxr ⊢
  obtain ⟨Q, hR⟩ : ∃ Q, rot (seq (a + 1)) (a + 1) = (a + 1) :: [] ++ (d + 1) :: Q := by
    obtain ⟨T, hT⟩ := rot_head (p.self (a + 1) (by omega))
    cases T with
    | nil => rw [hT] at hd; cases hd
    | cons c Q =>
      obtain rfl : c = d + 1 := by rw [hT] at hd; simpa using hd
      exact ⟨Q, hT⟩
  have hfew := p.few (x := a + 1) (by omega) (by omega)
  obtain ⟨nl, hnl⟩ : ∃ nl, (seq (a + 1)).length = nl := ⟨_, rfl⟩
  have hnR : (rot (seq (a + 1)) (a + 1)).length = nl := by rw [rot_len, hnl]
  rw [hnl] at hfew h2
  clear hM hd
  go_enter Tryz.func65, Tryz.ntmps65
  go_wp2_with fail
  refine hf.out.mono ?_
  rintro e w1 ⟨i, k, rfl, hi, hk, rfl⟩
  have hil := (List.getElem?_eq_some_iff.1 hi).1
  obtain ⟨g, o, c, hc1, hc2, hcy⟩ := hop i _ hi
  rw [hnl] at hcy
  obtain ⟨cell, hRo, _⟩ := hcy w (Below.refl _ _)
  have hfr := hid (rfrom_rot p hRo hk hnl (by omega))
  have htie := hid (t.split p (show a + 1 ≠ 0 by omega) (by omega) hi hR)
  have hwl : (wo ls i i).length ≤ 1000 := by have := wo_len ls i i; have := hMh.out; omega
  have hdrop : Hid ((rot (seq (a + 1)) (a + 1)).drop 1 = (d + 1) :: Q) := hid (by rw [hR]; rfl)
  have hnRh := hid hnR
  have q1 : (0 : Int) ≤ (i : Int) := by omega
  have q2 : (i : Int) < (M : Int) := by have := hMh.out; omega
  have t1 : ((nl : Int) == 1) = false := by rw [beq_eq_false_iff_ne]; omega
  have t1' : ¬ (nl = 1) := by omega
  clear hop hcy hRo hi hk hR hnR hnl hil hf
  go_wp2_with fail
  refine hfr.out.mono ?_
  rintro e w3 ⟨g3, c3, rfl, hd1, hd2, ho3, hI3, b3⟩
  have c3n : c3 ≤ 9223372036854775807 := by unfold maxLen at hd2; omega
  have hI3h := hid hI3
  have hwi : Hid (∀ y, Below w3.heap.size w3 y → Calls Tryz.prog 95 #[.slice (some ⟨bo, 0, none⟩) M cap, .int .i64 (i : Int), .int .i64 (i : Int)] y fun e w' => ∃ v, e = .returned v ∧ Rg w' y.heap.size v (wo ls i i) ∧ Below y.heap.size y w') := hid (fun y hy => rwithout_ok _ ls i i y (hxr.out y (b3.trans (hy.mono b3.size))) (by have := hMh.out; omega) (by have := hMh.out; omega) (by have := hMh.out; omega))
  replace b3 := hid b3
  clear hfr ho3 hI3 cell
  have e1 : (1 : Int) ≤ (nl : Int) := by omega
  have e2 : (1 : Int) ≤ (c3 : Int) := by omega
  have e3 : ¬ (c3 = 1) := by omega
  -- the one item's row, wherever it was made
  have hone : Hid (∀ (y y' : World) (bb : Nat), y.heap[bb]? = some (.cells #[.int .i64 (a : Int)] 3 (0, 0)) → Below y.heap.size y y' → Ro y' (.slice (some ⟨bb, 0, none⟩) 1 1) [a + 1]) := hid (fun y y' bb hy hb => by
    refine Ro.below ⟨bb, 0, 1, rfl, by simp, by unfold maxLen; omega, _, _, hy, fun j z hz => ?_⟩ hb
    match j, (List.getElem?_eq_some_iff.1 hz).1, hz with
    | 0, _, hz => simp at hz; subst hz; simp [itm])
  have hcutf : Hid (∀ y, Below w3.heap.size w3 y → Ro y (.slice (some ⟨g3, 1, none⟩) (nl - 1) (c3 - 1)) ((d + 1) :: Q)) := hid (fun y hy => by
    have hro := (ro_cut hI3h.out hy 1 c3 (by rw [hnRh.out]; omega) (by rw [hnRh.out]; omega) hd2).2
    rw [hnRh.out, hdrop.out] at hro
    exact hro)
  have bA : Below w3.heap.size w3 (w3.alloc (.cells #[.int .i64 (a : Int)] 3)).drew := ((Below.refl _ _).alloc (Nat.le_refl _) _).drew
  have nA : (w3.alloc (.cells #[.int .i64 (a : Int)] 3)).drew.heap[w3.heap.size]? = some (.cells #[.int .i64 (a : Int)] 3 (0, 0)) := heap_alloc_new w3 _
  have sA : (w3.alloc (.cells #[.int .i64 (a : Int)] 3)).drew.heap.size = w3.heap.size + 1 := by simp
  obtain ⟨wA, hwA⟩ : ∃ wA, (w3.alloc (.cells #[.int .i64 (a : Int)] 3)).drew = wA := ⟨_, rfl⟩
  have bB : Below w3.heap.size w3 ((w3.alloc (.cells #[.int .i64 (a : Int)] 3)).alloc (.cells [Value.slice (some ⟨w3.heap.size, 0, none⟩) 1 1, Value.slice (some ⟨g3, 1, none⟩) (nl - 1) (c3 - 1)].toArray 47)).drew := (((Below.refl _ _).alloc (Nat.le_refl _) _).alloc (by simp) _).drew
  have nB1 : ((w3.alloc (.cells #[.int .i64 (a : Int)] 3)).alloc (.cells [Value.slice (some ⟨w3.heap.size, 0, none⟩) 1 1, Value.slice (some ⟨g3, 1, none⟩) (nl - 1) (c3 - 1)].toArray 47)).drew.heap[w3.heap.size]? = some (.cells #[.int .i64 (a : Int)] 3 (0, 0)) := by
    show ((w3.alloc (.cells #[.int .i64 (a : Int)] 3)).alloc (.cells [Value.slice (some ⟨w3.heap.size, 0, none⟩) 1 1, Value.slice (some ⟨g3, 1, none⟩) (nl - 1) (c3 - 1)].toArray 47)).heap[w3.heap.size]? = _
    rw [Below.heap_alloc _ _ _ (by simp)]
    exact heap_alloc_new w3 _
  have nB2 : ((w3.alloc (.cells #[.int .i64 (a : Int)] 3)).alloc (.cells [Value.slice (some ⟨w3.heap.size, 0, none⟩) 1 1, Value.slice (some ⟨g3, 1, none⟩) (nl - 1) (c3 - 1)].toArray 47)).drew.heap[w3.heap.size + 1]? = some (.cells [Value.slice (some ⟨w3.heap.size, 0, none⟩) 1 1, Value.slice (some ⟨g3, 1, none⟩) (nl - 1) (c3 - 1)].toArray 47 (0, 0)) := by
    have := heap_alloc_new (w3.alloc (.cells #[.int .i64 (a : Int)] 3)) (.cells [Value.slice (some ⟨w3.heap.size, 0, none⟩) 1 1, Value.slice (some ⟨g3, 1, none⟩) (nl - 1) (c3 - 1)].toArray 47)
    rw [show (w3.alloc (.cells #[.int .i64 (a : Int)] 3)).heap.size = w3.heap.size + 1 from by simp] at this
    exact this
  have sB : ((w3.alloc (.cells #[.int .i64 (a : Int)] 3)).alloc (.cells [Value.slice (some ⟨w3.heap.size, 0, none⟩) 1 1, Value.slice (some ⟨g3, 1, none⟩) (nl - 1) (c3 - 1)].toArray 47)).drew.heap.size = w3.heap.size + 2 := by simp
  obtain ⟨wB, hwB⟩ : ∃ wB, ((w3.alloc (.cells #[.int .i64 (a : Int)] 3)).alloc (.cells [Value.slice (some ⟨w3.heap.size, 0, none⟩) 1 1, Value.slice (some ⟨g3, 1, none⟩) (nl - 1) (c3 - 1)].toArray 47)).drew = wB := ⟨_, rfl⟩
  rw [hwA] at bA nA sA
  rw [hwB] at bB nB1 nB2 sB
  replace hwA := hid hwA
  replace hwB := hid hwB
  go_wp2_with fail
  go_region_held3 (fun w' => True) (first | exact True.intro | assumption | go_keep) (first
    | (go_at_call 95; refine (hwi.out w3.drew (Below.refl _ _).drew).mono ?_; rintro e w4 ⟨v4, rfl, rg4, b4⟩; have b34 : Below w3.heap.size w3 w4 := (Below.refl w3.heap.size w3).drew.trans b4; obtain ⟨us, hus, ho4, hr4⟩ := rg4; have hr4 := hid hr4; have bw : Below w4.heap.size w4 ((w4.alloc (.cells #[.int .i64 (a : Int)] 3)).alloc (.cells [Value.slice (some ⟨w4.heap.size, 0, none⟩) 1 1, Value.slice (some ⟨g3, 1, none⟩) (nl - 1) (c3 - 1)].toArray 47)) := ((Below.refl _ _).alloc (Nat.le_refl _) _).alloc (by simp) _; have hoa := own_more ho4 bw; have hnews := new_cells (us := [Value.slice (some ⟨w4.heap.size, 0, none⟩) 1 1, Value.slice (some ⟨g3, 1, none⟩) (nl - 1) (c3 - 1)]) (show ((w4.alloc (.cells #[.int .i64 (a : Int)] 3)).alloc (.cells [Value.slice (some ⟨w4.heap.size, 0, none⟩) 1 1, Value.slice (some ⟨g3, 1, none⟩) (nl - 1) (c3 - 1)].toArray 47)).heap[w4.heap.size + 1]? = some (.cells [Value.slice (some ⟨w4.heap.size, 0, none⟩) 1 1, Value.slice (some ⟨g3, 1, none⟩) (nl - 1) (c3 - 1)].toArray 47 (0, 0)) from (by have := heap_alloc_new (w4.alloc (.cells #[.int .i64 (a : Int)] 3)) (.cells [Value.slice (some ⟨w4.heap.size, 0, none⟩) 1 1, Value.slice (some ⟨g3, 1, none⟩) (nl - 1) (c3 - 1)].toArray 47); rw [show (w4.alloc (.cells #[.int .i64 (a : Int)] 3)).heap.size = w4.heap.size + 1 from by simp] at this; exact this)); have hszb : w3.heap.size ≤ ((w4.alloc (.cells #[.int .i64 (a : Int)] 3)).alloc (.cells [Value.slice (some ⟨w4.heap.size, 0, none⟩) 1 1, Value.slice (some ⟨g3, 1, none⟩) (nl - 1) (c3 - 1)].toArray 47)).heap.size := Nat.le_trans b34.size bw.size; have r1 := hone.out ((w4.alloc (.cells #[.int .i64 (a : Int)] 3)).alloc (.cells [Value.slice (some ⟨w4.heap.size, 0, none⟩) 1 1, Value.slice (some ⟨g3, 1, none⟩) (nl - 1) (c3 - 1)].toArray 47)) ((w4.alloc (.cells #[.int .i64 (a : Int)] 3)).alloc (.cells [Value.slice (some ⟨w4.heap.size, 0, none⟩) 1 1, Value.slice (some ⟨g3, 1, none⟩) (nl - 1) (c3 - 1)].toArray 47)) w4.heap.size (by rw [Below.heap_alloc _ _ _ (by simp)]; exact heap_alloc_new w4 _) (Below.refl _ _); have r2 := (hcutf.out w4 b34).below bw)
    | (go_at_call 95; (try rw [hwA.out]); refine (hwi.out wA bA).mono ?_; rintro e w4 ⟨v4, rfl, rg4, b4⟩; have b34 : Below w3.heap.size w3 w4 := bA.trans (b4.mono bA.size); obtain ⟨us, hus, ho4, hr4⟩ := rg4; have hr4 := hid hr4; have bw : Below w4.heap.size w4 (w4.alloc (.cells [Value.slice (some ⟨w3.heap.size, 0, none⟩) 1 1, Value.slice (some ⟨g3, 1, none⟩) (nl - 1) (c3 - 1)].toArray 47)) := (Below.refl _ _).alloc (Nat.le_refl _) _; have hoa := own_more ho4 bw; have hnews := new_cells (us := [Value.slice (some ⟨w3.heap.size, 0, none⟩) 1 1, Value.slice (some ⟨g3, 1, none⟩) (nl - 1) (c3 - 1)]) (heap_alloc_new w4 (.cells [Value.slice (some ⟨w3.heap.size, 0, none⟩) 1 1, Value.slice (some ⟨g3, 1, none⟩) (nl - 1) (c3 - 1)].toArray 47)); have hszb : wA.heap.size ≤ (w4.alloc (.cells [Value.slice (some ⟨w3.heap.size, 0, none⟩) 1 1, Value.slice (some ⟨g3, 1, none⟩) (nl - 1) (c3 - 1)].toArray 47)).heap.size := Nat.le_trans b4.size bw.size; have r1 := hone.out wA (w4.alloc (.cells [Value.slice (some ⟨w3.heap.size, 0, none⟩) 1 1, Value.slice (some ⟨g3, 1, none⟩) (nl - 1) (c3 - 1)].toArray 47)) w3.heap.size nA (b4.trans (bw.mono b4.size)); have r2 := (hcutf.out w4 b34).below bw)
    | (go_at_call 95; (try rw [hwB.out]); refine (hwi.out wB bB).mono ?_; rintro e w4 ⟨v4, rfl, rg4, b4⟩; have b34 : Below w3.heap.size w3 w4 := bB.trans (b4.mono bB.size); obtain ⟨us, hus, ho4, hr4⟩ := rg4; have hr4 := hid hr4; have hnews := new_cells (us := [Value.slice (some ⟨w3.heap.size, 0, none⟩) 1 1, Value.slice (some ⟨g3, 1, none⟩) (nl - 1) (c3 - 1)]) ((b4.block (w3.heap.size + 1) (by omega)).trans nB2); have hszb := b4.size; have r1 := hone.out wB w4 w3.heap.size nB1 b4; have r2 := hcutf.out w4 b34)
    | (refine step_append_own rfl (.tmp 31) (.tmp 36) 29 rfl w3.heap.size 47 i1 _ 1 24 Tryz.underlying29 hif hz0 hz1 hz2 rfl (by decide) v4 (wo ls i i).length us (by rfl) hoa ⟨w4.heap.size + 1, 0, none⟩ 2 2 [Value.slice (some ⟨w4.heap.size, 0, none⟩) 1 1, Value.slice (some ⟨g3, 1, none⟩) (nl - 1) (c3 - 1)] (by rfl) rfl hnews (by simp [Value.oneCell']) (by unfold maxLen; omega) (by omega) hszb ?_; intro v5 w5 ho5 hg5; have fin0 := rows_append (nl := [[a + 1], (d + 1) :: Q]) (Nat.le_refl w3.heap.size) b34 hus ho4 hr4.out rfl (fun j l u hj hu => (by match j, (List.getElem?_eq_some_iff.1 hj).1, hj, hu with | 0, _, hj, hu => (simp at hj hu; subst hj hu; exact r1) | 1, _, hj, hu => (simp at hj hu; subst hj hu; exact r2))) bw ho5 hg5 (by simp); have fin := hid (And.intro fin0.1 (fin0.2)); clear ho5 hg5 fin0)
    | (refine step_append_own rfl (.tmp 31) (.tmp 36) 29 rfl wA.heap.size 47 i1 _ 1 24 Tryz.underlying29 hif hz0 hz1 hz2 rfl (by decide) v4 (wo ls i i).length us (by rfl) hoa ⟨w4.heap.size, 0, none⟩ 2 2 [Value.slice (some ⟨w3.heap.size, 0, none⟩) 1 1, Value.slice (some ⟨g3, 1, none⟩) (nl - 1) (c3 - 1)] (by rfl) rfl hnews (by simp [Value.oneCell']) (by unfold maxLen; omega) (by omega) hszb ?_; intro v5 w5 ho5 hg5; have fin0 := rows_append (nl := [[a + 1], (d + 1) :: Q]) (Nat.le_refl wA.heap.size) b4 hus ho4 hr4.out rfl (fun j l u hj hu => (by match j, (List.getElem?_eq_some_iff.1 hj).1, hj, hu with | 0, _, hj, hu => (simp at hj hu; subst hj hu; exact r1) | 1, _, hj, hu => (simp at hj hu; subst hj hu; exact r2))) bw ho5 hg5 (by simp); have fin := hid (And.intro fin0.1 (bA.trans (fin0.2.mono bA.size))); clear ho5 hg5 fin0)
    | (refine step_append_own rfl (.tmp 31) (.tmp 36) 29 rfl wB.heap.size 47 i1 _ 1 24 Tryz.underlying29 hif hz0 hz1 hz2 rfl (by decide) v4 (wo ls i i).length us (by rfl) ho4 ⟨w3.heap.size + 1, 0, none⟩ 2 2 [Value.slice (some ⟨w3.heap.size, 0, none⟩) 1 1, Value.slice (some ⟨g3, 1, none⟩) (nl - 1) (c3 - 1)] (by rfl) rfl hnews (by simp [Value.oneCell']) (by unfold maxLen; omega) (by omega) hszb ?_; intro v5 w5 ho5 hg5; have fin0 := rows_append (nl := [[a + 1], (d + 1) :: Q]) (Nat.le_refl wB.heap.size) b4 hus ho4 hr4.out rfl (fun j l u hj hu => (by match j, (List.getElem?_eq_some_iff.1 hj).1, hj, hu with | 0, _, hj, hu => (simp at hj hu; subst hj hu; exact r1) | 1, _, hj, hu => (simp at hj hu; subst hj hu; exact r2))) (Below.refl _ _) ho5 hg5 (by simp); have fin := hid (And.intro fin0.1 (bB.trans (fin0.2.mono bB.size))); clear ho5 hg5 fin0))
  all_goals
    go_wp2_with fail
    go_ret2
    exact ⟨v5, _, rfl, fin.out.1, htie.out, b3.out.trans (fin.out.2.mono b3.out.size)⟩
end

end Go.Proofs.YtdmkbcbgjdmgdaaGreatDoor
