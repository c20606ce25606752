/- 'SpanRest', walked. -/
import Derived.Test.YtnlbpjppkfenkaaRestH9
import Derived.Test.YtnlbpjppkfenkaaOpen9
namespace Go.Proofs.Ytnlbpjppkfenkaa
open Go.RowKit
set_option linter.unusedVariables false

set_option maxRecDepth 100000 in
set_option maxHeartbeats 8000000 in
theorem rest_law (n : Int) (v : Value) (l : List Ed) (at' : Int) (w : World) (hv : EV w v l) (hw : Wr l) : Calls Try.prog 5 #[.int .i64 n, v, .int .i64 at'] w fun e w' => e = .returned (.bool true) ∧ Below w.heap.size w w' := by
  have hsure : Hid (∀ y, Calls Try.prog 6 #[] y fun e w' => e = .returned (.bool true) ∧ Below y.heap.size y w') := fun y => sure_ok y
  by_cases h1 : n < 1
  · obtain ⟨ad, m, cap, rfl, he, _, _⟩ := hv
    have d1 : decide (n < 1) = true := decide_eq_true h1
    clear h1 he hw
    go_enter Try.func5, Try.ntmps5
    go_wp2_with fail
    refine (hsure.out _).mono ?_
    rintro e w1 ⟨rfl, b1⟩
    replace b1 := hid b1
    go_wp2_with fail
    go_ret
    exact ⟨rfl, b1.out⟩
  have d1 : decide (n < 1) = false := decide_eq_false h1
  by_cases h2 : 40 < n
  · obtain ⟨ad, m, cap, rfl, he, _, _⟩ := hv
    have d2 : decide (40 < n) = true := decide_eq_true h2
    clear h1 h2 he hw
    go_enter Try.func5, Try.ntmps5
    go_wp2_with fail
    refine (hsure.out _).mono ?_
    rintro e w1 ⟨rfl, b1⟩
    replace b1 := hid b1
    go_wp2_with fail
    go_ret
    exact ⟨rfl, b1.out⟩
  have d2 : decide (40 < n) = false := decide_eq_false h2
  by_cases h0 : l.length = 0
  · obtain ⟨ad, m, cap, rfl, he, _, _⟩ := hv
    have hm := he.len
    obtain rfl : m = 0 := by omega
    clear h1 h2 h0 he hw hm
    go_enter Try.func5, Try.ntmps5
    go_wp2_with fail
    refine (hsure.out _).mono ?_
    rintro e w1 ⟨rfl, b1⟩
    replace b1 := hid b1
    go_wp2_with fail
    go_ret
    exact ⟨rfl, b1.out⟩
  by_cases h3 : 40 < l.length
  · obtain ⟨ad, m, cap, rfl, he, _, _⟩ := hv
    have hm := he.len
    have d3 : decide (40 < (m : Int)) = true := decide_eq_true (by omega)
    have d0 : ((m : Int) == 0) = false := by simp; omega
    have d0' : ¬ ((m : Int) = 0) := by omega
    have d0'' : ¬ (m = 0) := by omega
    clear h1 h2 h3 h0 he hw hm
    go_enter Try.func5, Try.ntmps5
    go_wp2_with fail
    refine (hsure.out _).mono ?_
    rintro e w1 ⟨rfl, b1⟩
    replace b1 := hid b1
    go_wp2_with fail
    go_ret
    exact ⟨rfl, b1.out⟩
  by_cases hok : Okr n l
  rotate_left
  · have hc := hid (rcheck_range n v l w hv (by omega) (by omega) (by omega) hok)
    obtain ⟨ad, m, cap, rfl, he, _, _⟩ := hv
    have hm := he.len
    have d3 : decide (40 < (m : Int)) = false := decide_eq_false (by omega)
    have d0 : ((m : Int) == 0) = false := by simp; omega
    have d0' : ¬ ((m : Int) = 0) := by omega
    have d0'' : ¬ (m = 0) := by omega
    clear h1 h2 h3 h0 he hw hm hok
    go_enter Try.func5, Try.ntmps5
    go_wp2_with fail
    refine hc.out.mono ?_
    rintro e w1 ⟨rfl, rfl⟩
    go_wp2_with fail
    refine (hsure.out _).mono ?_
    rintro e w1 ⟨rfl, b1⟩
    replace b1 := hid b1
    go_wp2_with fail
    go_ret
    exact ⟨rfl, b1.out⟩
  obtain ⟨N, rfl⟩ : ∃ N : Nat, n = (N : Int) := ⟨n.toNat, by omega⟩
  have hN1 : 1 ≤ N := by omega
  have hN2 : N ≤ 40 := by omega
  have hL : l.length ≤ 40 := by omega
  have hL1 : 1 ≤ l.length := by omega
  have hc := hid (rcheck_ok (N : Int) v l w hv (by omega) (by omega) (by omega) hok)
  have hgive : Hid (∀ (l : List Ed) y u, l.length ≤ 40 → EV y u l → Calls Try.prog 8 #[u] y fun e w' => ∃ u, e = .returned u ∧ Re 45 y.heap.size w' u l ∧ Below y.heap.size y w') := fun l y u hl hu => give_ok u l y hu (by omega)
  have htree : Hid (∀ (l : List Ed) y u, l.length ≤ 40 → Okr (N : Int) l → Wr l → EV y u l → Calls Try.prog 7 #[.int .i64 (N : Int), u] y fun e w' => Tr (Lw (eW l)) l y e w') := fun l y u hl hok hw hu => tree_ok N u l y hu (by omega) (by omega) hok hw
  replace hok := hid hok
  replace hw := hid hw
  obtain ⟨k, hk, hkm⟩ := mod_inN at' l.length hL1 (by omega)
  have hv0 := hid hv
  obtain ⟨ad, m, cap, rfl, he, hmc, hcap⟩ := hv
  have hm := he.len
  have d3 : decide (40 < (m : Int)) = false := decide_eq_false (by omega)
  have d0 : ((m : Int) == 0) = false := by simp; omega
  have d0' : ¬ ((m : Int) = 0) := by omega
  have d0'' : ¬ (m = 0) := by omega
  have hu : IntKind.u64.wrap (m : Int) = (m : Int) := by rw [IntKind.wrap_u64]; omega
  rw [hm] at hk hkm hL hL1
  obtain ⟨qk, hqk⟩ : ∃ q, l[k]? = some q := ⟨_, List.getElem?_eq_getElem (by omega)⟩
  obtain ⟨g, o, rfl, _, _, _⟩ := he.cell k qk hqk
  replace he := hid he
  replace hm := hid hm
  replace hqk := hid hqk
  clear h1 h2 h3 h0
  go_enter Try.func5, Try.ntmps5
  go_wp2_with fail
  refine hc.out.mono ?_
  rintro e w1 ⟨rfl, rfl⟩
  clear hc
  go_wp2_with fail
  rw [hk]
  clear hk
  refine (hgive.out l _ _ (by rw [hm.out]; exact hL) hv0.out).mono ?_
  rintro e w1 ⟨u1, rfl, r1, b1⟩
  replace r1 := hid r1.ev
  replace b1 := hid b1
  go_wp2_with fail
  refine (htree.out l _ _ (by rw [hm.out]; exact hL) hok.out hw.out r1.out).mono ?_
  rintro e w2 ⟨av, so, rfl, so1, m2, b2⟩
  replace b2 := bstep b1 b2
  replace so1 := hid so1
  obtain ⟨p, hp⟩ : ∃ p : Nat → Bool, p = fun i => decide (i ∈ kr (eA l) (eB l) (fun x => x) so) := ⟨_, rfl⟩
  rw [← hp, hm.out] at m2
  replace hp := hid hp
  have m2' := hid m2.bv
  obtain ⟨aa, ac, rfl, mac, mac2, mc⟩ := m2.bv
  obtain ⟨ga, oa, rfl, ck⟩ := mc k hkm
  obtain ⟨s, hs⟩ : ∃ s, wsum (eW l) (kr (eA l) (eB l) (fun x => x) so) = s := ⟨_, rfl⟩
  rw [hs]
  replace hs := hid hs
  replace mc := hid mc
  clear m2 r1 b1
  have i1 : (0 : Int) ≤ (k : Int) := by omega
  have i2 : (k : Int) < (m : Int) := by omega
  have q0 : (k : Int) ≤ (k : Int) + 1 := by omega
  have qw : IntKind.i64.wrap ((k : Int) + 1) = (k : Int) + 1 := by rw [IntKind.wrap_i64]; omega
  have q6 : (0 : Int) ≤ (k : Int) + 1 := by omega
  have q2 : (k : Int) + 1 ≤ (m : Int) := by omega
  obtain ⟨x, hx⟩ : ∃ x, p k = x := ⟨_, rfl⟩
  rw [hx] at ck
  cases x with
  | false =>
    obtain ⟨j0, hjf, hy0, hy1, hy2⟩ := info_parts infoREdge
    obtain ⟨i0, hif, hz0, hz1, hz2⟩ := info_parts infoBool
    have hno : Hid (k ∉ kr (eA l) (eB l) (fun x => x) so) := hid (by rw [hp.out] at hx; simpa using hx)
    have hes := hid (he.out.below b2.out).cells
    have hlT : (ecs (l.take k)).length = k * 3 := by rw [ecs_length, List.length_take, hm.out]; congr 1; omega
    have hlD : (ecs (l.drop (k + 1))).length = (m - (k + 1)) * 3 := by rw [ecs_length, List.length_drop, hm.out]
    have hcT : ∀ j u, (ecs (l.take k))[j]? = some u → w2.drew.cell? ((⟨g, o, none⟩ : Addr).add j) = some u := by
      intro j u hu
      rw [ecs_take, List.getElem?_take] at hu
      rw [add_flat]
      split at hu
      · exact hes.out j u hu
      · cases hu
    obtain ⟨ad8, had8, hcD⟩ : ∃ ad8 : Addr, (if cap = k + 1 then (⟨g, o, none⟩ : Addr) else ⟨g, o + (k + 1) * 3, none⟩) = ad8 ∧ Hid (∀ (u1 : World), w2.drew.grownBy u1 none → ∀ j u, (ecs (l.drop (k + 1)))[j]? = some u → u1.cell? (ad8.add j) = some u) := by
      refine ⟨_, rfl, hid (fun u1 hg1 j u hu => ?_)⟩
      by_cases hcp : cap = k + 1
      · have hj := (List.getElem?_eq_some_iff.1 hu).1
        rw [hlD] at hj
        omega
      · rw [if_neg hcp, add_flat]
        rw [ecs_drop, List.getElem?_drop] at hu
        have := hes.out _ u hu
        rw [← Nat.add_assoc] at this
        exact hg1.cell (show w2.drew.cell? _ = _ from this) (by simp)
    have q1 : (k : Int) ≤ (cap : Int) := by omega
    have q3 : (k : Int) + 1 ≤ (cap : Int) := by omega
    have q4 : (m : Int) ≤ (cap : Int) := by omega
    clear hx
    go_wp2_with fail
    refine wp_region_noPanic ?_
    refine wp_region_held_drew (S := fun _ => True) (by kernel_rfl) trivial (fun hHeld => ?_)
    refine takeH (i := 0) (v := ?_) (a' := ?_) ({ dst := some 72, op := Op.move (Operand.tmp 11), type := 22, pos := "law.go:198", after := #[], guard := none }) rfl (by kernel_rfl) (by kernel_rfl) (by kernel_rfl) (fun _ _ _ h => h) (by rfl) ?_ (by assumption) ?_ ?_
    rotate_left 2
    · (intro w' hSw; go_simp; try with_reducible rfl)
    · (simp only [Act.put, List.setIfInBounds_toArray, List.set_cons_zero, List.set_cons_succ]; try rfl)
    refine takeH (i := 1) (v := ?_) (a' := ?_) ({ dst := some 73, op := Op.move (Operand.tmp 1), type := 22, pos := "law.go:198", after := #[], guard := none }) rfl (by kernel_rfl) (by kernel_rfl) (by kernel_rfl) (fun _ _ _ h => h) (by rfl) ?_ (by assumption) ?_ ?_
    rotate_left 2
    · (intro w' hSw; go_simp; try with_reducible rfl)
    · (simp only [Act.put, List.setIfInBounds_toArray, List.set_cons_zero, List.set_cons_succ]; try rfl)
    refine takeH (i := 2) (v := ?_) (a' := ?_) ({ dst := some 74, op := Op.move (Operand.tmp 7), type := 3, pos := "law.go:198", after := #[], guard := none }) rfl (by kernel_rfl) (by kernel_rfl) (by kernel_rfl) (fun _ _ _ h => h) (by rfl) ?_ (by assumption) ?_ ?_
    rotate_left 2
    · (intro w' hSw; go_simp; try with_reducible rfl)
    · (simp only [Act.put, List.setIfInBounds_toArray, List.set_cons_zero, List.set_cons_succ]; try rfl)
    refine takeH (i := 3) (v := ?_) (a' := ?_) ({ dst := some 75, op := Op.slice 22 (Operand.tmp 73) none (some (Operand.tmp 74)) none, type := 22, pos := "law.go:198", after := #[{ on := 1, ground := Ground.data }, { on := 2, ground := Ground.data }], guard := none }) rfl (by kernel_rfl) (by kernel_rfl) (by kernel_rfl) (fun _ _ _ h => h) (by rfl) ?_ (by assumption) ?_ ?_
    rotate_left 2
    · (intro w' hSw; go_simp; try with_reducible rfl)
    · (simp only [Act.put, List.setIfInBounds_toArray, List.set_cons_zero, List.set_cons_succ]; try rfl)
    refine takeH (i := 5) (v := ?_) (a' := ?_) ({ dst := some 77, op := Op.move (Operand.tmp 1), type := 22, pos := "law.go:198", after := #[], guard := none }) rfl (by kernel_rfl) (by kernel_rfl) (by kernel_rfl) (fun _ _ _ h => h) (by rfl) ?_ (by assumption) ?_ ?_
    rotate_left 2
    · (intro w' hSw; go_simp; try with_reducible rfl)
    · (simp only [Act.put, List.setIfInBounds_toArray, List.set_cons_zero, List.set_cons_succ]; try rfl)
    refine takeH (i := 6) (v := ?_) (a' := ?_) ({ dst := some 78, op := Op.move (Operand.tmp 7), type := 3, pos := "law.go:198", after := #[], guard := none }) rfl (by kernel_rfl) (by kernel_rfl) (by kernel_rfl) (fun _ _ _ h => h) (by rfl) ?_ (by assumption) ?_ ?_
    rotate_left 2
    · (intro w' hSw; go_simp; try with_reducible rfl)
    · (simp only [Act.put, List.setIfInBounds_toArray, List.set_cons_zero, List.set_cons_succ]; try rfl)
    refine takeH (i := 7) (v := ?_) (a' := ?_) ({ dst := some 79, op := Op.binOp BinOp.add 3 (Operand.tmp 78) (Operand.const (Value.int IntKind.i64 1)) 3, type := 3, pos := "law.go:198", after := #[{ on := 6, ground := Ground.data }], guard := none }) rfl (by kernel_rfl) (by kernel_rfl) (by kernel_rfl) (fun _ _ _ h => h) (by rfl) ?_ (by assumption) ?_ ?_
    rotate_left 2
    · (intro w' hSw; go_simp; try with_reducible rfl)
    · (simp only [Act.put, List.setIfInBounds_toArray, List.set_cons_zero, List.set_cons_succ]; try rfl)
    refine takeH (i := 8) (v := .slice (some ad8) (m - (k + 1)) (cap - (k + 1))) (a' := ?_) ({ dst := some 80, op := Op.slice 22 (Operand.tmp 77) (some (Operand.tmp 79)) none none, type := 22, pos := "law.go:198", after := #[{ on := 5, ground := Ground.data }, { on := 7, ground := Ground.data }], guard := none }) rfl (by kernel_rfl) (by kernel_rfl) (by kernel_rfl) (fun _ _ _ h => h) (by rfl) ?_ (by assumption) ?_ ?_
    rotate_left 1
    · (intro w' hSw; go_simp; rw [← had8]; split <;> rfl)
    · (simp only [Act.put, List.setIfInBounds_toArray, List.set_cons_zero, List.set_cons_succ]; try rfl)
    refine wpAnyH_ready (rs := [4]) (by kernel_rfl) (by simp) ?_
    refine AllReadyH.cons (o := { dst := some 76, op := Op.call { callee := Callee.builtin Builtin.append, args := #[Operand.tmp 72, Operand.tmp 75], argTypes := #[22, 22] }, type := 22, pos := "law.go:198", after := #[{ on := 0, ground := Ground.data }, { on := 3, ground := Ground.data }], guard := none }) rfl (fun K hK => ?_) AllReadyH.nil
    refine step_append_own rfl (.tmp 72) (.tmp 75) 22 rfl w2.heap.size 27 j0 _ 3 24 Try.underlying22 hjf hy0 hy1 hy2 rfl (by decide) (.slice none 0 0) 0 [] (by rfl) (World.ownsRow_nil _ _ _ _) ⟨g, o, none⟩ k cap (ecs (l.take k)) (by rfl) hlT hcT (ecs_one _) (by unfold maxLen; omega) (by omega) (by simp) ?_
    intro v1 x1 hown1 hgrow1
    refine hK.out _ _ trivial (fun hHeld => ?_)
    clear hK K
    try simp only [Act.put, List.setIfInBounds_toArray, List.set_cons_zero, List.set_cons_succ]
    refine wpAnyH_ready (rs := [9]) (by kernel_rfl) (by simp) ?_
    refine AllReadyH.cons (o := { dst := some 81, op := Op.call { callee := Callee.builtin Builtin.append, args := #[Operand.tmp 76, Operand.tmp 80], argTypes := #[22, 22] }, type := 22, pos := "law.go:198", after := #[{ on := 4, ground := Ground.data }, { on := 8, ground := Ground.data }, { on := 4, ground := Ground.chain }], guard := none }) rfl (fun K hK => ?_) AllReadyH.nil
    refine step_append_own rfl (.tmp 76) (.tmp 80) 22 rfl w2.heap.size 27 j0 _ 3 24 Try.underlying22 hjf hy0 hy1 hy2 rfl (by decide) v1 (0 + k) ([] ++ (ecs (l.take k))) (by rfl) hown1 ad8 (m - (k + 1)) (cap - (k + 1)) (ecs (l.drop (k + 1))) (by rfl) hlD (hcD.out x1 hgrow1) (ecs_one _) (by unfold maxLen; omega) (by omega) (by have := hgrow1.size; simp at this; omega) ?_
    intro v2 x2 hown2 hgrow2
    refine hK.out _ _ trivial (fun hHeld => ?_)
    clear hK K
    try simp only [Act.put, List.setIfInBounds_toArray, List.set_cons_zero, List.set_cons_succ]
    refine takeH (i := 10) (v := ?_) (a' := ?_) ({ dst := some 11, op := Op.assign (Operand.tmp 81), type := 22, pos := "law.go:198", after := #[{ on := 9, ground := Ground.data }, { on := 9, ground := Ground.chain }, { on := 0, ground := Ground.phase }, { on := 1, ground := Ground.phase }, { on := 2, ground := Ground.phase }, { on := 3, ground := Ground.phase }, { on := 4, ground := Ground.phase }, { on := 5, ground := Ground.phase }, { on := 6, ground := Ground.phase }, { on := 7, ground := Ground.phase }, { on := 8, ground := Ground.phase }, { on := 9, ground := Ground.phase }], guard := none }) rfl (by kernel_rfl) (by kernel_rfl) (by kernel_rfl) (fun _ _ _ h => h) (by rfl) ?_ (by assumption) ?_ ?_
    rotate_left 2
    · (intro w' hSw; go_simp; try with_reducible rfl)
    · (simp only [Act.put, List.setIfInBounds_toArray, List.set_cons_zero, List.set_cons_succ]; try rfl)
    refine wpAnyH_done (by kernel_rfl) ?_ _
    refine NoPanic.normal ?_
    have hbF : Below w2.heap.size w2 x2 := ((Below.refl w2.heap.size w2).drew.grown hgrow1 (Nat.le_refl _) (fun k hk => by cases hk)).grown hgrow2 hgrow1.size (fun k hk => (hown1.lt k hk).1)
    obtain ⟨m1, hm1⟩ : ∃ m1, m1 = m - 1 := ⟨_, rfl⟩
    have hown2' : x2.ownsRow w2.heap.size 27 3 v2 m1 (ecs (l.take k ++ l.drop (k + 1))) := by
      rw [ecs_append, hm1, show m - 1 = 0 + k + (m - (k + 1)) from by omega]
      simpa using hown2
    have hlen' : Hid ((l.take k ++ l.drop (k + 1)).length = m1) := by rw [out_len (by rw [hm.out]; exact hkm), hm.out, hm1]; exact hid rfl
    have hre : Hid (Re 27 w2.heap.size x2 v2 (l.take k ++ l.drop (k + 1))) := by
      unfold Re
      rw [hlen'.out]
      exact hown2'
    replace hm1 := hid hm1
    have hm1' : m1 ≤ 40 := by have := hm1.out; omega
    have m3 := hid (m2'.out.below hbF)
    have bF := bstep b2 hbF
    obtain ⟨a2, c2, rfl, _, _⟩ := own_any hown2'
    clear hown1 hgrow1 hown2 hown2' hgrow2 hbF hcT hcD had8 hlT hlD hes b2 hHeld m2' mc ck
    go_wp2_with fail
    refine (hgive.out _ _ _ (by rw [hlen'.out]; exact hm1') hre.out.ev).mono ?_
    rintro e w3 ⟨u3, rfl, r3, b3⟩
    replace r3 := hid r3.ev
    have m4 := hid (m3.out.below b3)
    replace b3 := bstep bF b3
    clear hre bF m3
    go_wp2_with fail
    refine (htree.out _ _ _ (by rw [hlen'.out]; exact hm1') (fun q hq => hok.out q (out_mem hq)) (fun q hq => hw.out q (out_mem hq)) r3.out).mono ?_
    rintro e w4 ⟨bv, sp, rfl, so2, m5, b4⟩
    obtain ⟨ht1, ht2⟩ := out_tree (by rw [hm.out]; exact hkm) so1.out so2 hno.out
    rw [ht2, hs.out]
    rw [hlen'.out] at m5
    have m5' := hid m5.bv
    have m6 := hid (m4.out.below b4)
    replace b4 := bstep b3 b4
    obtain ⟨ba, bc, rfl, _, _⟩ := own_any (show w4.ownsRow _ _ _ bv _ _ from m5)
    have hmk : Hid (∀ i, i < m1 → decide (i ∈ kr (eA (l.take k ++ l.drop (k + 1))) (eB (l.take k ++ l.drop (k + 1))) (fun x => x) sp) = p (sh k i)) := fun i hi => by
      rw [hp.out, decide_eq_decide]
      exact ht1 i (by rw [hm.out, ← hm1.out]; exact hi)
    clear so2 ht1 ht2 m5 r3 b3 m4 so1 hno hs
    obtain ⟨ga', ac', ea', _, _, mc6⟩ := m6.out
    simp only [Value.slice.injEq, true_and] at ea'
    obtain ⟨rfl, rfl⟩ := ea'
    have hbs : Hid (∀ j u, (bl m p)[j]? = some u → w4.cell? ⟨ga, oa + j, none⟩ = some u) := fun j u hu => by
      have hj := (List.getElem?_eq_some_iff.1 hu).1
      rw [bl_length] at hj
      obtain ⟨b, o', e1, e2⟩ := mc6 j hj
      simp only [Option.some.injEq, Addr.mk.injEq, and_true] at e1
      obtain ⟨rfl, rfl⟩ := e1
      rw [bl_get hj] at hu
      rw [e2]
      exact hu
    have blT : (bl k p).length = k * 1 := by simp
    have blD : (bld k m p).length = (m - (k + 1)) * 1 := by simp [bld]
    have bcT : ∀ j u, (bl k p)[j]? = some u → w4.drew.cell? ((⟨ga, oa, none⟩ : Addr).add j) = some u := by
      intro j u hu
      have hj := (List.getElem?_eq_some_iff.1 hu).1
      rw [bl_length] at hj
      rw [add_flat]
      rw [bl_get hj, ← bl_get (n := m) (by omega)] at hu
      exact hbs.out j u hu
    obtain ⟨ae8, hae8, bcD⟩ : ∃ ae8 : Addr, (if ac = k + 1 then (⟨ga, oa, none⟩ : Addr) else ⟨ga, oa + (k + 1), none⟩) = ae8 ∧ Hid (∀ (u1 : World), w4.drew.grownBy u1 none → ∀ j u, (bld k m p)[j]? = some u → u1.cell? (ae8.add j) = some u) := by
      refine ⟨_, rfl, hid (fun u1 hg1 j u hu => ?_)⟩
      by_cases hcp : ac = k + 1
      · have hj := (List.getElem?_eq_some_iff.1 hu).1
        rw [blD] at hj
        omega
      · rw [if_neg hcp, add_flat]
        unfold bld at hu
        rw [List.getElem?_drop] at hu
        have := hbs.out _ u hu
        rw [← Nat.add_assoc] at this
        exact hg1.cell (show w4.drew.cell? _ = _ from this) (by simp)
    have z1 : (k : Int) ≤ (ac : Int) := by omega
    have z3 : (k : Int) + 1 ≤ (ac : Int) := by omega
    have z4 : (m : Int) ≤ (ac : Int) := by omega
    clear mc6 m6
    go_wp2_with fail
    refine wp_region_noPanic ?_
    refine wp_region_held_drew (S := fun _ => True) (by kernel_rfl) trivial (fun hHeld => ?_)
    refine takeH (i := 0) (v := ?_) (a' := ?_) ({ dst := some 104, op := Op.move (Operand.tmp 15), type := 28, pos := "law.go:204", after := #[], guard := none }) rfl (by kernel_rfl) (by kernel_rfl) (by kernel_rfl) (fun _ _ _ h => h) (by rfl) ?_ (by assumption) ?_ ?_
    rotate_left 2
    · (intro w' hSw; go_simp; try with_reducible rfl)
    · (simp only [Act.put, List.setIfInBounds_toArray, List.set_cons_zero, List.set_cons_succ]; try rfl)
    refine takeH (i := 1) (v := ?_) (a' := ?_) ({ dst := some 105, op := Op.move (Operand.tmp 8), type := 28, pos := "law.go:204", after := #[], guard := none }) rfl (by kernel_rfl) (by kernel_rfl) (by kernel_rfl) (fun _ _ _ h => h) (by rfl) ?_ (by assumption) ?_ ?_
    rotate_left 2
    · (intro w' hSw; go_simp; try with_reducible rfl)
    · (simp only [Act.put, List.setIfInBounds_toArray, List.set_cons_zero, List.set_cons_succ]; try rfl)
    refine takeH (i := 2) (v := ?_) (a' := ?_) ({ dst := some 106, op := Op.move (Operand.tmp 7), type := 3, pos := "law.go:204", after := #[], guard := none }) rfl (by kernel_rfl) (by kernel_rfl) (by kernel_rfl) (fun _ _ _ h => h) (by rfl) ?_ (by assumption) ?_ ?_
    rotate_left 2
    · (intro w' hSw; go_simp; try with_reducible rfl)
    · (simp only [Act.put, List.setIfInBounds_toArray, List.set_cons_zero, List.set_cons_succ]; try rfl)
    refine takeH (i := 3) (v := ?_) (a' := ?_) ({ dst := some 107, op := Op.slice 28 (Operand.tmp 105) none (some (Operand.tmp 106)) none, type := 28, pos := "law.go:204", after := #[{ on := 1, ground := Ground.data }, { on := 2, ground := Ground.data }], guard := none }) rfl (by kernel_rfl) (by kernel_rfl) (by kernel_rfl) (fun _ _ _ h => h) (by rfl) ?_ (by assumption) ?_ ?_
    rotate_left 2
    · (intro w' hSw; go_simp; try with_reducible rfl)
    · (simp only [Act.put, List.setIfInBounds_toArray, List.set_cons_zero, List.set_cons_succ]; try rfl)
    refine takeH (i := 5) (v := ?_) (a' := ?_) ({ dst := some 109, op := Op.move (Operand.tmp 8), type := 28, pos := "law.go:204", after := #[], guard := none }) rfl (by kernel_rfl) (by kernel_rfl) (by kernel_rfl) (fun _ _ _ h => h) (by rfl) ?_ (by assumption) ?_ ?_
    rotate_left 2
    · (intro w' hSw; go_simp; try with_reducible rfl)
    · (simp only [Act.put, List.setIfInBounds_toArray, List.set_cons_zero, List.set_cons_succ]; try rfl)
    refine takeH (i := 6) (v := ?_) (a' := ?_) ({ dst := some 110, op := Op.move (Operand.tmp 7), type := 3, pos := "law.go:204", after := #[], guard := none }) rfl (by kernel_rfl) (by kernel_rfl) (by kernel_rfl) (fun _ _ _ h => h) (by rfl) ?_ (by assumption) ?_ ?_
    rotate_left 2
    · (intro w' hSw; go_simp; try with_reducible rfl)
    · (simp only [Act.put, List.setIfInBounds_toArray, List.set_cons_zero, List.set_cons_succ]; try rfl)
    refine takeH (i := 7) (v := ?_) (a' := ?_) ({ dst := some 111, op := Op.binOp BinOp.add 3 (Operand.tmp 110) (Operand.const (Value.int IntKind.i64 1)) 3, type := 3, pos := "law.go:204", after := #[{ on := 6, ground := Ground.data }], guard := none }) rfl (by kernel_rfl) (by kernel_rfl) (by kernel_rfl) (fun _ _ _ h => h) (by rfl) ?_ (by assumption) ?_ ?_
    rotate_left 2
    · (intro w' hSw; go_simp; try with_reducible rfl)
    · (simp only [Act.put, List.setIfInBounds_toArray, List.set_cons_zero, List.set_cons_succ]; try rfl)
    refine takeH (i := 8) (v := .slice (some ae8) (m - (k + 1)) (ac - (k + 1))) (a' := ?_) ({ dst := some 112, op := Op.slice 28 (Operand.tmp 109) (some (Operand.tmp 111)) none none, type := 28, pos := "law.go:204", after := #[{ on := 5, ground := Ground.data }, { on := 7, ground := Ground.data }], guard := none }) rfl (by kernel_rfl) (by kernel_rfl) (by kernel_rfl) (fun _ _ _ h => h) (by rfl) ?_ (by assumption) ?_ ?_
    rotate_left 1
    · (intro w' hSw; go_simp; rw [← hae8]; split <;> rfl)
    · (simp only [Act.put, List.setIfInBounds_toArray, List.set_cons_zero, List.set_cons_succ]; try rfl)
    refine wpAnyH_ready (rs := [4]) (by kernel_rfl) (by simp) ?_
    refine AllReadyH.cons (o := { dst := some 108, op := Op.call { callee := Callee.builtin Builtin.append, args := #[Operand.tmp 104, Operand.tmp 107], argTypes := #[28, 28] }, type := 28, pos := "law.go:204", after := #[{ on := 0, ground := Ground.data }, { on := 3, ground := Ground.data }], guard := none }) rfl (fun K hK => ?_) AllReadyH.nil
    refine step_append_own rfl (.tmp 104) (.tmp 107) 28 rfl w4.heap.size 4 i0 _ 1 1 Try.underlying28 hif hz0 hz1 hz2 rfl (by decide) (.slice none 0 0) 0 [] (by rfl) (World.ownsRow_nil _ _ _ _) ⟨ga, oa, none⟩ k ac (bl k p) (by rfl) blT bcT (bl_one _ _) (by unfold maxLen; omega) (by omega) (by simp) ?_
    intro v3 x3 hown3 hgrow3
    refine hK.out _ _ trivial (fun hHeld => ?_)
    clear hK K
    try simp only [Act.put, List.setIfInBounds_toArray, List.set_cons_zero, List.set_cons_succ]
    refine wpAnyH_ready (rs := [9]) (by kernel_rfl) (by simp) ?_
    refine AllReadyH.cons (o := { dst := some 113, op := Op.call { callee := Callee.builtin Builtin.append, args := #[Operand.tmp 108, Operand.tmp 112], argTypes := #[28, 28] }, type := 28, pos := "law.go:204", after := #[{ on := 4, ground := Ground.data }, { on := 8, ground := Ground.data }, { on := 4, ground := Ground.chain }], guard := none }) rfl (fun K hK => ?_) AllReadyH.nil
    refine step_append_own rfl (.tmp 108) (.tmp 112) 28 rfl w4.heap.size 4 i0 _ 1 1 Try.underlying28 hif hz0 hz1 hz2 rfl (by decide) v3 (0 + k) ([] ++ (bl k p)) (by rfl) hown3 ae8 (m - (k + 1)) (ac - (k + 1)) (bld k m p) (by rfl) blD (bcD.out x3 hgrow3) (bld_one _ _ _) (by unfold maxLen; omega) (by omega) (by have := hgrow3.size; simp at this; omega) ?_
    intro v4 x4 hown4 hgrow4
    refine hK.out _ _ trivial (fun hHeld => ?_)
    clear hK K
    try simp only [Act.put, List.setIfInBounds_toArray, List.set_cons_zero, List.set_cons_succ]
    refine takeH (i := 10) (v := ?_) (a' := ?_) ({ dst := some 15, op := Op.assign (Operand.tmp 113), type := 28, pos := "law.go:204", after := #[{ on := 9, ground := Ground.data }, { on := 9, ground := Ground.chain }, { on := 0, ground := Ground.phase }, { on := 1, ground := Ground.phase }, { on := 2, ground := Ground.phase }, { on := 3, ground := Ground.phase }, { on := 4, ground := Ground.phase }, { on := 5, ground := Ground.phase }, { on := 6, ground := Ground.phase }, { on := 7, ground := Ground.phase }, { on := 8, ground := Ground.phase }, { on := 9, ground := Ground.phase }], guard := none }) rfl (by kernel_rfl) (by kernel_rfl) (by kernel_rfl) (fun _ _ _ h => h) (by rfl) ?_ (by assumption) ?_ ?_
    rotate_left 2
    · (intro w' hSw; go_simp; try with_reducible rfl)
    · (simp only [Act.put, List.setIfInBounds_toArray, List.set_cons_zero, List.set_cons_succ]; try rfl)
    refine wpAnyH_done (by kernel_rfl) ?_ _
    refine NoPanic.normal ?_
    have hbG : Below w4.heap.size w4 x4 := ((Below.refl w4.heap.size w4).drew.grown hgrow3 (Nat.le_refl _) (fun k hk => by cases hk)).grown hgrow4 hgrow3.size (fun k hk => (hown3.lt k hk).1)
    have hwant : Hid (Rm w4.heap.size x4 v4 m1 (fun i => p (sh k i))) := by
      refine hid ?_
      unfold Rm
      rw [hm1.out, ← bl_out hkm, show m - 1 = 0 + k + (m - (k + 1)) from by omega]
      simpa using hown4
    have m7 := hid (m5'.out.below hbG)
    have bG := bstep b4 hbG
    have hmarks := hid (marks_ok _ v4 m1 m1 _ _ x4 m7.out hwant.out.bv)
    clear hown3 hgrow3 hown4 hgrow4 hbG bcT bcD hae8 blT blD hbs b4 hHeld m5' m7 hwant
    go_wp2_with fail
    refine hmarks.out.mono ?_
    rintro e w5 ⟨rfl, kk, rfl⟩
    rw [mEq_all hmk.out]
    clear hmarks
    go_wp2_with fail
    refine (hsure.out _).mono ?_
    rintro e w6 ⟨rfl, b6⟩
    have b7 := bstep (hid (belowN bG.out kk)) b6
    go_wp2_with fail
    go_ret
    exact ⟨rfl, b7.out⟩
  | true =>
    obtain ⟨j0, hjf, hy0, hy1, hy2⟩ := info_parts infoREdge
    have hyes : Hid (k ∈ kr (eA l) (eB l) (fun x => x) so) := hid (by rw [hp.out] at hx; simpa using hx)
    have hes := hid (he.out.below b2.out).cells
    have hlen0 : (ecs l).length = m * 3 := by rw [ecs_length, hm.out]
    have hcs0 : ∀ j u, (ecs l)[j]? = some u → w2.cell? ((⟨g, o, none⟩ : Addr).add j) = some u := fun j u hu => by
      rw [add_flat]
      exact hes.out j u hu
    clear hx hp mc m2'
    go_wp2_with (at_builtin; refine wpList_append_own _ rfl (.tmp 120) (.tmp 121) 22 rfl w2.heap.size 27 j0 _ 3 24 Try.underlying22 hjf hy0 hy1 hy2 rfl (by decide) _ _ _ rfl (World.ownsRow_nil _ _ _ _) ⟨g, o, none⟩ m cap (ecs l) rfl hlen0 hcs0 (ecs_one _) (by unfold maxLen; omega) (by omega) (Nat.le_refl _) ?_; intro v' w' ho' hg' _; refine Hid.out ?_)
    have ho2 : w'.ownsRow w2.heap.size 27 3 v' m (ecs l) := by simpa using ho'
    have hb2 : Below w2.heap.size w2 w' := (Below.refl _ _).grown hg' (Nat.le_refl _) (fun k hk => by cases hk)
    obtain ⟨g2, c2, rfl, _, _⟩ := own_form ho2 (by omega)
    have hcw : w'.cell? ⟨g2, k * 3 + 2, none⟩ = some (.int .i32 qk.w) := by rw [ho2.cellAt _ (by omega)]; exact (ecs_get l k qk hqk.out).2.2
    have hfz : w'.frozen? ⟨g2, k * 3 + 2, none⟩ = false := ho2.frozenAt _
    obtain ⟨s1, s2⟩ := ho2.stored (k * 3 + 2) (.int .i32 (-2147483648))
    rw [ecs_set l k qk _ hqk.out] at s1
    have hlen2 : Hid ((l.set k ⟨qk.a, qk.b, -2147483648⟩).length = m) := by rw [List.length_set]; exact hm
    have hre : Hid (Re 27 w2.heap.size (w'.setCell ⟨g2, k * 3 + 2, none⟩ (.int .i32 (-2147483648))) (.slice (some ⟨g2, 0, none⟩) m c2) (l.set k ⟨qk.a, qk.b, -2147483648⟩)) := by
      refine hid ?_
      unfold Re
      rw [hlen2.out]
      exact s1
    have bF := bstep b2 (below_row hb2 (Nat.le_refl _) ho2 (Nat.le_refl _) s2)
    clear ho' hg' ho2 hb2 s1 s2 hes hlen0 hcs0 b2 ck
    refine hid ?_
    go_wp2_with fail
    refine (hgive.out (l.set k ⟨qk.a, qk.b, -2147483648⟩) _ _ (by rw [hlen2.out]; exact hL) hre.out.ev).mono ?_
    rintro e w3 ⟨u3, rfl, r3, b3⟩
    replace r3 := hid r3.ev
    replace b3 := bstep bF b3
    clear hre bF hcw hfz
    go_wp2_with fail
    refine (htree.out (l.set k ⟨qk.a, qk.b, -2147483648⟩) _ _ (by rw [hlen2.out]; exact hL) (fun q hq => ?_) (fun q hq => ?_) r3.out).mono ?_
    · rcases set_mem hqk.out hq with h | rfl
      · exact hok.out q h
      · exact hok.out qk (List.mem_of_getElem? hqk.out)
    · rcases set_mem hqk.out hq with h | rfl
      · exact hw.out q h
      · exact ⟨Int.le_refl _, (by decide : (-2147483648 : Int) ≤ 2147483647)⟩
    rintro e w4 ⟨bv, sp, rfl, so2, m5, b4⟩
    have hkk := set_tree hqk.out hw.out so1.out so2 hyes.out
    rw [hlen2.out] at m5
    replace b4 := bstep b3 b4
    obtain ⟨ba, bc, rfl, _, _, mcb⟩ := m5.bv
    obtain ⟨gb, ob, rfl, cbk⟩ := mcb k hkm
    have cbt : w4.cell? ⟨gb, ob + k, none⟩ = some (.bool true) := cbk.trans (congrArg (fun x => some (Value.bool x)) (decide_eq_true hkk))
    clear cbk
    generalize wsum (eW (l.set k ⟨qk.a, qk.b, -2147483648⟩)) _ = s'
    clear so2 hkk m5 mcb r3 b3 so1 hyes hs
    go_wp2_with fail
    refine (hsure.out _).mono ?_
    rintro e w6 ⟨rfl, b6⟩
    have b7 := bstep b4 b6
    go_wp2_with fail
    go_ret
    exact ⟨rfl, b7.out⟩

end Go.Proofs.Ytnlbpjppkfenkaa
