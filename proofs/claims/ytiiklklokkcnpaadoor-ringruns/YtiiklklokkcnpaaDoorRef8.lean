/- The reference's Split and Merge, walked. -/
import Derived.Test.YtiiklklokkcnpaaDoorRef7
namespace Go.Proofs.YtiiklklokkcnpaaDoor
open Go.RowKit
set_option linter.unusedVariables false

section
variable {K : Nat} {ls : List (List Nat)} {seq : Nat → List Nat}

theorem rfrom_rot (p : Part K seq) {a k : Nat} {y : World} {g o c nl : Nat} (hRo : Ro y (.slice (some ⟨g, o, none⟩) nl c) (seq (a + 1))) (hk : (seq (a + 1))[k]? = some (a + 1)) (hnl : (seq (a + 1)).length = nl) (hfew : nl ≤ 1000000) :
    Calls Tryd.prog 34 #[.slice (some ⟨g, o, none⟩) nl c, .int .i64 (k : Int)] y fun e w' => ∃ g3 c3, e = .returned (.slice (some ⟨g3, 0, none⟩) nl c3) ∧ nl ≤ c3 ∧ c3 ≤ maxLen ∧ w'.ownsRow y.heap.size 3 1 (.slice (some ⟨g3, 0, none⟩) nl c3) nl ((rot (seq (a + 1)) (a + 1)).map itm) ∧ Ib w' g3 0 (rot (seq (a + 1)) (a + 1)) ∧ Below y.heap.size y w' := by
  have hkl := (List.getElem?_eq_some_iff.1 hk).1
  have hnR : (rot (seq (a + 1)) (a + 1)).length = nl := by rw [rot_len, hnl]
  have hRne : rot (seq (a + 1)) (a + 1) ≠ [] := fun e => by rw [e] at hnR; simp at hnR; omega
  refine (rfrom_ok _ _ k y hRo hkl (by omega)).mono ?_
  rintro e w' ⟨v, rfl, ho, hb⟩
  rw [rot_from p (by omega) hk] at ho
  obtain ⟨g3, o3, c3, rfl, h1, h2, h3⟩ := ro_of_own ho hRne
  rcases ho.2 with ⟨e, _⟩ | ⟨g4, c4, _, e, _⟩
  · cases e
  · injection e with e1 e2 e3
    injection e1 with e1
    injection e1 with e1 e4
    subst e4
    rw [hnR] at ho h1 ⊢
    exact ⟨g3, c3, rfl, h1, h2, ho, h3, hb⟩

/-- A slice of a row, in a world further on. -/
theorem ro_cut {w w' : World} {g : Nat} {l : List Nat} (h : Ib w g 0 l) (hb : Below w.heap.size w w') (j c : Nat) (hj : j ≤ l.length) (hl : l.length ≤ c) (hc : c ≤ maxLen) : Ro w' (.slice (some ⟨g, 0, none⟩) j j) (l.take j) ∧ Ro w' (.slice (some ⟨g, j, none⟩) (l.length - j) (c - j)) (l.drop j) := by
  obtain ⟨p1, p2⟩ := Ro.parts (cap := c) (M := j) (h.keep (Keep.ofBelow hb)) j
  have e1 : (l.take j).length = j := by rw [List.length_take]; omega
  have e2 : (l.drop j).length = l.length - j := by rw [List.length_drop]
  rw [Nat.zero_add] at p2
  exact ⟨⟨g, 0, j, by rw [e1], by omega, by unfold maxLen at *; omega, p1⟩, ⟨g, j, c - j, by rw [e2], by omega, by unfold maxLen at *; omega, p2⟩⟩

set_option maxRecDepth 100000 in
set_option maxHeartbeats 1000000 in
theorem rsplit_self (x : Value) (a : Nat) (w : World) (hx : Rf w x ls) (t : Tie K ls seq) (p : Part K seq) (hK : K ≤ 1000) (ha : a < K) :
    Calls Tryd.prog 12 #[x, .int .i64 (a : Int), .int .i64 (a : Int)] w fun e w' => e = .returned (.tuple #[x, .int .i64 20]) ∧ w = w' := by
  have hf := hid (hx.find t p hK a ha)
  go_enter Tryd.func12, Tryd.ntmps12
  go_wp2_with fail
  refine hf.out.mono ?_
  rintro e w1 ⟨i, k, rfl, _, _, rfl⟩
  go_wp2_with fail
  refine hf.out.mono ?_
  rintro e w1 ⟨j, m, rfl, _, _, rfl⟩
  go_wp2_with fail
  go_ret2
  exact ⟨rfl, rfl⟩

set_option maxRecDepth 100000 in
set_option maxHeartbeats 1000000 in
theorem rsplit_apart (x : Value) (a b : Nat) (w : World) (hx : Rf w x ls) (t : Tie K ls seq) (p : Part K seq) (hK : K ≤ 1000) (ha : a < K) (hb : b < K) (hin : b + 1 ∉ seq (a + 1)) :
    Calls Tryd.prog 12 #[x, .int .i64 (a : Int), .int .i64 (b : Int)] w fun e w' => e = .returned (.tuple #[x, .int .i64 21]) ∧ w = w' := by
  have hf := hid (hx.find t p hK a ha)
  have hg := hid (hx.find t p hK b hb)
  have hab : a ≠ b := fun e => hin (by rw [e]; exact p.self _ (by omega))
  have t1 : ((a : Int) == (b : Int)) = false := by rw [beq_eq_false_iff_ne]; omega
  replace hin := hid hin
  go_enter Tryd.func12, Tryd.ntmps12
  go_wp2_with fail
  refine hf.out.mono ?_
  rintro e w1 ⟨i, k, rfl, hi, _, rfl⟩
  go_wp2_with fail
  refine hg.out.mono ?_
  rintro e w1 ⟨j, m, rfl, hj, _, rfl⟩
  have hij : i ≠ j := fun e => by
    rw [e, hj] at hi
    injection hi with hi
    exact hin.out (by rw [← hi]; exact p.self _ (by omega))
  have t2 : ((i : Int) != (j : Int)) = true := by rw [bne_iff_ne]; omega
  clear hi hj
  go_wp2_with fail
  go_ret2
  exact ⟨rfl, rfl⟩

set_option maxRecDepth 100000 in
set_option maxHeartbeats 4000000 in
theorem rsplit_ok (x : Value) (a b : Nat) (w : World) (hx : Rf w x ls) (t : Tie K ls seq) (p : Part K seq) (hK : K ≤ 1000) (ha : a < K) (hb : b < K) (hab : a ≠ b) (hin : b + 1 ∈ seq (a + 1)) :
    Calls Tryd.prog 12 #[x, .int .i64 (a : Int), .int .i64 (b : Int)] w fun e w' => ∃ x' ls', e = .returned (.tuple #[x', .int .i64 0]) ∧ Rf w' x' ls' ∧ Tie K ls' (splS seq (a + 1) (b + 1)) ∧ Below w.heap.size w w' := by
  obtain ⟨i1, hif, hz0, hz1, hz2⟩ := info_parts infoInts
  have hf := hid (hx.find t p hK a ha)
  have hg := hid (hx.find t p hK b hb)
  have t1 : ((a : Int) == (b : Int)) = false := by rw [beq_eq_false_iff_ne]; omega
  have hlen := t.len
  have hxr : Hid (∀ y, Below w.heap.size w y → Rf y x ls) := hid (fun y hy => hx.below hy)
  obtain ⟨bo, cap, rfl, hop⟩ := hx.opened
  obtain ⟨M, hM⟩ : ∃ M, ls.length = M := ⟨_, rfl⟩
  have hMh := hid hM
  rw [hM] at hf hg hlen hxr ⊢
  obtain ⟨P, Q, hR, hP⟩ := rot_parts p (show a + 1 ≠ 0 by omega) (show a + 1 ≠ b + 1 by omega) hin
  have hsame := (p.mem (a + 1) (b + 1) (by omega) hin).1
  have hfew := p.few (x := a + 1) (by omega) (by omega)
  obtain ⟨nl, hnl⟩ : ∃ nl, (seq (a + 1)).length = nl := ⟨_, rfl⟩
  have hnR : (rot (seq (a + 1)) (a + 1)).length = nl := by rw [rot_len, hnl]
  have hnPQ : nl = P.length + 1 + (Q.length + 1) := by rw [← hnR, hR]; simp; omega
  rw [hnl] at hfew
  replace hsame := hid hsame
  clear hM
  go_enter Tryd.func12, Tryd.ntmps12
  go_wp2_with fail
  refine hf.out.mono ?_
  rintro e w1 ⟨i, k, rfl, hi, hk, rfl⟩
  go_wp2_with fail
  refine hg.out.mono ?_
  rintro e w1 ⟨j, m, rfl, hj, _, rfl⟩
  obtain rfl : i = j := t.alone hi (by rw [← hsame.out]; exact hj)
  clear hj hf hg
  have hil := (List.getElem?_eq_some_iff.1 hi).1
  obtain ⟨g, o, c, hc1, hc2, hcy⟩ := hop i _ hi
  rw [hnl] at hcy
  obtain ⟨cell, hRo, _⟩ := hcy w (Below.refl _ _)
  have hfr := hid (rfrom_rot p hRo hk hnl (by omega))
  have htie := hid (t.split p (show a + 1 ≠ 0 by omega) (by omega) hi hR)
  have hwl : (wo ls i i).length ≤ 1000 := by have := wo_len ls i i; have := hMh.out; omega
  have hnz : Hid (∀ z ∈ rot (seq (a + 1)) (a + 1), z ≠ 0) := hid (fun z hz => (p.mem (a + 1) z (by omega) (rot_mem.1 hz)).2)
  have hRh := hid hR
  have hPh := hid hP
  have hnRh := hid hnR
  obtain ⟨at0, hat0⟩ : ∃ q, P.length + 1 = q := ⟨_, rfl⟩
  have hcut : Hid ((rot (seq (a + 1)) (a + 1)).take at0 = (a + 1) :: P ∧ (rot (seq (a + 1)) (a + 1)).drop at0 = (b + 1) :: Q) := hid (by
    rw [hR, ← hat0]
    constructor
    · rw [List.take_append_of_le_length (by simp), List.take_of_length_le (by simp)]
    · rw [List.drop_append_of_le_length (by simp), List.drop_of_length_le (by simp)]; rfl)
  have hbit : Hid (∀ q, q < at0 → ∀ z, (rot (seq (a + 1)) (a + 1))[q]? = some z → z ≠ b + 1) := hid (fun q hq z hz e => by
    rw [hR, List.getElem?_append_left (by simp; omega)] at hz
    exact hP (e ▸ List.mem_of_getElem? hz))
  have hhit : Hid ((rot (seq (a + 1)) (a + 1))[at0]? = some (b + 1)) := hid (by
    rw [hR, ← hat0, List.getElem?_append_right (by simp)]; simp)
  have hatn : at0 < nl := by omega
  have hat1 : 1 ≤ at0 := by omega
  have q1 : (0 : Int) ≤ (i : Int) := by omega
  have q2 : (i : Int) < (M : Int) := by have := hMh.out; omega
  have hcell := hid (fun y hy => (hcy y hy).1)
  clear hop hcy hRo hi hk hin hR hP hnR hnl hnPQ hat0 hil
  go_wp2_with fail
  refine hfr.out.mono ?_
  rintro e w3 ⟨g3, c3, rfl, hd1, hd2, ho3, hI3, b3⟩
  have c3n : c3 ≤ 9223372036854775807 := by unfold maxLen at hd2; omega
  have hI3h := hid hI3
  have hwi : Hid (∀ y, Below w3.heap.size w3 y → Calls Tryd.prog 35 #[.slice (some ⟨bo, 0, none⟩) M cap, .int .i64 (i : Int), .int .i64 (i : Int)] y fun e w' => ∃ v, e = .returned v ∧ Rg w' y.heap.size v (wo ls i i) ∧ Below y.heap.size y w') := hid (fun y hy => rwithout_ok _ ls i i y (hxr.out y (b3.trans (hy.mono b3.size))) (by have := hMh.out; omega) (by have := hMh.out; omega) (by have := hMh.out; omega))
  replace b3 := hid b3
  clear hfr ho3 hI3 cell
  go_wp2_with fail
  go_loopw [13] (fun u wr => ∃ q : Nat, q ≤ at0 ∧ u = .int .i64 (q : Int) ∧ w3 = wr) (fun u _ => at0 - (intOf u).toNat)
  case atStart => exact ⟨0, by omega, by go_num, rfl⟩
  case round =>
    obtain ⟨q, hq, rfl, rfl⟩ := hrel
    have k1 : (0 : Int) ≤ (q : Int) := by omega
    have k2 : (q : Int) < (nl : Int) := by omega
    rcases Nat.lt_or_ge q at0 with hql | hqg
    · obtain ⟨z, hz⟩ : ∃ z, (rot (seq (a + 1)) (a + 1))[q]? = some z := ⟨_, List.getElem?_eq_getElem (by rw [hnRh.out]; omega)⟩
      have hzn := hnz.out z (List.mem_of_getElem? hz)
      have hzb := hbit.out q hql z hz
      obtain ⟨y, rfl⟩ : ∃ y, z = y + 1 := ⟨z - 1, by omega⟩
      have cc := hI3h.out.cell hz
      rw [Nat.zero_add, show itm (y + 1) = .int .i64 (y : Int) from by unfold itm; congr 1; omega] at cc
      have u1 : ((y : Int) != (b : Int)) = true := by rw [bne_iff_ne]; omega
      clear hz
      go_wp2_with fail
      go_roundw
      case rel => exact ⟨q + 1, by omega, by go_num, by trivial⟩
      case measure => simp [intOf]; omega
    · obtain rfl : q = at0 := by omega
      have cc := hI3h.out.cell hhit.out
      rw [Nat.zero_add, show itm (b + 1) = .int .i64 (b : Int) from by unfold itm; congr 1; omega] at cc
      have e2 : (q : Int) ≤ (nl : Int) := by omega
      have e3 : (q : Int) ≤ (c3 : Int) := by omega
      have e4 : c3 ≠ q := by omega
      have bd := b3.out.drew
      go_wp2_with fail
      have hcutf : Hid (∀ y, Below w3.heap.size w3 y → Ro y (.slice (some ⟨g3, 0, none⟩) q q) ((a + 1) :: P) ∧ Ro y (.slice (some ⟨g3, q, none⟩) (nl - q) (c3 - q)) ((b + 1) :: Q)) := hid (fun y hy => by
        have hro := ro_cut hI3h.out hy q c3 (by rw [hnRh.out]; omega) (by rw [hnRh.out]; omega) hd2
        rw [hnRh.out, hcut.out.1, hcut.out.2] at hro
        exact hro)
      have bx : Below w3.heap.size w3 ((w3.alloc (.cells [Value.slice (some ⟨g3, 0, none⟩) q q, Value.slice (some ⟨g3, q, none⟩) (nl - q) (c3 - q)].toArray 47)).drew) := ((Below.refl _ _).alloc (Nat.le_refl _) _).drew
      have hnx : ((w3.alloc (.cells [Value.slice (some ⟨g3, 0, none⟩) q q, Value.slice (some ⟨g3, q, none⟩) (nl - q) (c3 - q)].toArray 47)).drew).heap[w3.heap.size]? = some (.cells [Value.slice (some ⟨g3, 0, none⟩) q q, Value.slice (some ⟨g3, q, none⟩) (nl - q) (c3 - q)].toArray 47 (0, 0)) := heap_alloc_new w3 _
      have hsx : ((w3.alloc (.cells [Value.slice (some ⟨g3, 0, none⟩) q q, Value.slice (some ⟨g3, q, none⟩) (nl - q) (c3 - q)].toArray 47)).drew).heap.size = w3.heap.size + 1 := by simp
      obtain ⟨ws, hws⟩ : ∃ ws, (w3.alloc (.cells [Value.slice (some ⟨g3, 0, none⟩) q q, Value.slice (some ⟨g3, q, none⟩) (nl - q) (c3 - q)].toArray 47)).drew = ws := ⟨_, rfl⟩
      rw [hws] at bx hnx hsx
      replace hws := hid hws
      go_region_held3 (fun w' => True) (first | exact True.intro | assumption | go_keep) (first
        | (go_at_call 35; refine (hwi.out w3.drew (Below.refl _ _).drew).mono ?_; rintro e w4 ⟨v4, rfl, rg4, b4⟩; have b34 : Below w3.heap.size w3 w4 := (Below.refl w3.heap.size w3).drew.trans b4; obtain ⟨us, hus, ho4, hr4⟩ := rg4; have hro := hid (hcutf.out w4 b34); have ba4 : Below w4.heap.size w4 (w4.alloc (.cells [Value.slice (some ⟨g3, 0, none⟩) q q, Value.slice (some ⟨g3, q, none⟩) (nl - q) (c3 - q)].toArray 47)) := (Below.refl _ _).alloc (Nat.le_refl _) _; have hoa := own_more ho4 ba4; have hnews := new_cells (us := [Value.slice (some ⟨g3, 0, none⟩) q q, Value.slice (some ⟨g3, q, none⟩) (nl - q) (c3 - q)]) (heap_alloc_new w4 (.cells [Value.slice (some ⟨g3, 0, none⟩) q q, Value.slice (some ⟨g3, q, none⟩) (nl - q) (c3 - q)].toArray 47)); have hszb : w3.heap.size ≤ (w4.alloc (.cells [Value.slice (some ⟨g3, 0, none⟩) q q, Value.slice (some ⟨g3, q, none⟩) (nl - q) (c3 - q)].toArray 47)).heap.size := Nat.le_trans b34.size ba4.size; have hr4 := hid hr4)
        | (go_at_call 35; (try rw [hws.out]); refine (hwi.out ws bx).mono ?_; rintro e w4 ⟨v4, rfl, rg4, b4⟩; have b34 : Below w3.heap.size w3 w4 := bx.trans (b4.mono bx.size); obtain ⟨us, hus, ho4, hr4⟩ := rg4; have hro := hid (hcutf.out w4 b34); have hnews := new_cells (us := [Value.slice (some ⟨g3, 0, none⟩) q q, Value.slice (some ⟨g3, q, none⟩) (nl - q) (c3 - q)]) ((b4.block w3.heap.size (by omega)).trans hnx); have hr4 := hid hr4; have hszb := b4.size)
        | (refine step_append_own rfl (.tmp 51) (.tmp 59) 29 rfl w3.heap.size 47 i1 _ 1 24 Tryd.underlying29 hif hz0 hz1 hz2 rfl (by decide) v4 (wo ls i i).length us (by rfl) hoa ⟨w4.heap.size, 0, none⟩ 2 2 [Value.slice (some ⟨g3, 0, none⟩) q q, Value.slice (some ⟨g3, q, none⟩) (nl - q) (c3 - q)] (by rfl) rfl hnews (by simp [Value.oneCell']) (by unfold maxLen; omega) (by omega) hszb ?_; intro v5 w5 ho5 hg5; have fin := hid (rows_append (nl := [(a + 1) :: P, (b + 1) :: Q]) (Nat.le_refl w3.heap.size) b34 hus ho4 hr4.out rfl (fun j l u hj hu => (by match j, (List.getElem?_eq_some_iff.1 hj).1, hj, hu with | 0, _, hj, hu => (simp at hj hu; subst hj hu; exact hro.out.1.below ba4) | 1, _, hj, hu => (simp at hj hu; subst hj hu; exact hro.out.2.below ba4))) ba4 ho5 hg5 (by simp)); clear ho5 hg5)
        | (refine step_append_own rfl (.tmp 51) (.tmp 59) 29 rfl ws.heap.size 47 i1 _ 1 24 Tryd.underlying29 hif hz0 hz1 hz2 rfl (by decide) v4 (wo ls i i).length us (by rfl) ho4 ⟨w3.heap.size, 0, none⟩ 2 2 [Value.slice (some ⟨g3, 0, none⟩) q q, Value.slice (some ⟨g3, q, none⟩) (nl - q) (c3 - q)] (by rfl) rfl hnews (by simp [Value.oneCell']) (by unfold maxLen; omega) (by omega) hszb ?_; intro v5 w5 ho5 hg5; have fin0 := rows_append (nl := [(a + 1) :: P, (b + 1) :: Q]) (Nat.le_refl ws.heap.size) b4 hus ho4 hr4.out rfl (fun j l u hj hu => (by match j, (List.getElem?_eq_some_iff.1 hj).1, hj, hu with | 0, _, hj, hu => (simp at hj hu; subst hj hu; exact hro.out.1) | 1, _, hj, hu => (simp at hj hu; subst hj hu; exact hro.out.2))) (Below.refl _ _) ho5 hg5 (by simp); have fin := hid (And.intro fin0.1 (bx.trans (fin0.2.mono bx.size))); clear ho5 hg5 fin0))
      all_goals
        go_wp2_with fail
        go_ret2
        exact ⟨v5, _, rfl, fin.out.1, htie.out, b3.out.trans (fin.out.2.mono b3.out.size)⟩
end

end Go.Proofs.YtiiklklokkcnpaaDoor
