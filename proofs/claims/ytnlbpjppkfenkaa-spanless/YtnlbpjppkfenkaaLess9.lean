/- 'SpanLess', walked. -/
import Derived.Test.YtnlbpjppkfenkaaLessH9
namespace Go.Proofs.Ytnlbpjppkfenkaa
open Go.RowKit
set_option linter.unusedVariables false

theorem iw (z : Int) : IntKind.i64.wrap z = wrap64 z := by rw [IntKind.wrap_i64]; unfold wrap64; omega

set_option maxRecDepth 100000 in
set_option maxHeartbeats 8000000 in
theorem less_law (n : Int) (v : Value) (l : List Ed) (ov : Value) (zs : List Int) (w : World) (hv : EV w v l) (hw : Wr l) (ho : NV w ov zs) : Calls Try.prog 3 #[.int .i64 n, v, ov] w fun e w' => e = .returned (.bool true) ∧ Below w.heap.size w w' := by
  have hsure : Hid (∀ y, Calls Try.prog 6 #[] y fun e w' => e = .returned (.bool true) ∧ Below y.heap.size y w') := fun y => sure_ok y
  obtain ⟨K, hK, hK1, hK2⟩ := mod_up n 12 (by decide) (by decide)
  have hK12 : K ≤ 12 := by omega
  have hoh := hid ho
  obtain ⟨oa, on', oc, rfl, ol, ob, oce⟩ := ho
  replace oce := hid oce
  replace ol := hid ol
  obtain ⟨ad, m, cap, rfl, he, hmc, hmx⟩ := hv
  have hm := he.len
  by_cases h3 : 30 < m
  · have d3 : decide (30 < (m : Int)) = true := decide_eq_true (by omega)
    clear h3 he hw hm hK
    go_enter Try.func3, Try.ntmps3
    go_wp2_with fail
    refine (hsure.out _).mono ?_
    rintro e w1 ⟨rfl, b1⟩
    replace b1 := hid b1
    go_wp2_with fail
    go_ret
    exact ⟨rfl, b1.out⟩
  have hm30 : m ≤ 30 := by omega
  have d3 : decide (30 < (m : Int)) = false := decide_eq_false (by omega)
  obtain ⟨i0, hif, hz0, hz1, hz2⟩ := info_parts infoREdge
  obtain ⟨es, hes⟩ : ∃ es, es = l.map (md K) := ⟨_, rfl⟩
  have eok : Hid (Okr (K : Int) es) := by rw [hes]; exact hid (md_ok K hK1 (by omega) l)
  have ewr : Hid (Wr es) := by rw [hes]; exact hid (md_wr K l hw)
  have elen : Hid (es.length = m) := by rw [hes]; exact hid (by simpa using hm)
  have eget : Hid (∀ j q, l[j]? = some q → es[j]? = some (md K q)) := fun j q hq => by rw [hes, List.getElem?_map, hq]; rfl
  have hku : IntKind.u64.wrap (K : Int) = (K : Int) := by rw [IntKind.wrap_u64]; omega
  have hk0 : ¬ ((K : Int) = 0) := by omega
  have hk0' : ¬ (K = 0) := by omega
  replace he := hid he
  replace hm := hid hm
  clear hes hw h3
  go_enter Try.func3, Try.ntmps3
  go_wp2_with fail
  rw [hK]
  clear hK
  go_loopw [8, 9] (fun u k wr => ∃ j : Nat, j ≤ m ∧ k = .int .i64 (j : Int) ∧ Hid (Re 27 w.heap.size wr u (es.take j) ∧ Below w.heap.size w wr))
    (fun _ k _ => m - (intOf k).toNat)
  case atStart => exact ⟨0, by omega, by go_num, Re.nil _ _ _, Below.refl _ _⟩
  case round =>
    obtain ⟨j, hj, rfl, hs⟩ := hrel
    rcases Nat.lt_or_ge j m with hlt | hge
    · obtain ⟨q, hq⟩ : ∃ q, l[j]? = some q := ⟨_, List.getElem?_eq_getElem (by rw [hm.out]; exact hlt)⟩
      obtain ⟨g, o, rfl, c0, c1, c2⟩ := (he.out.below hs.out.2).cell j q hq
      obtain ⟨x, y, hmd, hx, hy, ha, hb⟩ := md_nat K hK1 (by omega) q
      have htk : Hid (es.take (j + 1) = es.take j ++ [⟨(x : Int), (y : Int), q.w⟩]) := by rw [← hmd]; exact hid (take_next (eget.out j q hq))
      have hlen : (es.take j).length = j := by rw [List.length_take, elen.out]; omega
      have hown : wr.ownsRow w.heap.size 27 3 u8 j (ecs (es.take j)) := by
        have h2 : wr.ownsRow w.heap.size 27 3 u8 (es.take j).length (ecs (es.take j)) := hs.out.1
        rw [hlen] at h2
        exact h2
      have hbw := hs.out.2
      have hsz := hbw.size
      have ha' : IntKind.i64.wrap ((IntKind.u64.wrap q.a).tmod (K : Int)) = (x : Int) := (iw _).trans ha
      have hb' : IntKind.i64.wrap ((IntKind.u64.wrap q.b).tmod (K : Int)) = (y : Int) := (iw _).trans hb
      generalize q.a = qa at c0 ha ha'
      generalize q.b = qb at c1 hb hb'
      generalize q.w = z at c2 htk
      have i1 : (0 : Int) ≤ (j : Int) := by omega
      have i2 : (j : Int) < (m : Int) := by omega
      clear hs hq hlen hmd
      go_wp2_with fail
      go_region_law (refine step_append_own rfl (.tmp 43) (.tmp 70) 22 rfl w.heap.size 27 i0 _ 3 24 Try.underlying22 hif hz0 hz1 hz2 rfl (by decide) u8 j (ecs (es.take j)) (by simp [Act.eval]) (hown.drew.alloc _) ⟨wr.heap.size, 0, none⟩ 1 1 (ecs [⟨(x : Int), (y : Int), z⟩]) (by simp [Act.eval]) rfl (ed_new wr ⟨(x : Int), (y : Int), z⟩ 27) (ed_one _) (by unfold maxLen; omega) (by omega) (by simp; omega) ?_; intro v' w' hown' hgrow')
      all_goals
        have hb3 : Below w.heap.size w w' := ((hbw.drew).alloc hbw.size (.cells #[.int .i64 (x : Int), .int .i64 (y : Int), .int .i32 z] 27)).grown hgrow' (by simp; omega) (fun k hk => (hown.lt k hk).1)
        have hnew : Hid (Re 27 w.heap.size w' v' (es.take (j + 1)) ∧ Below w.heap.size w w') := by
          refine ⟨?_, hb3⟩
          unfold Re
          rw [htk.out, ecs_append, List.length_append, List.length_take, elen.out, Nat.min_eq_left (by omega)]
          exact hown'
        clear hown hown' hgrow' hb3
        go_wp2_with fail
        refine ⟨⟨j + 1, by omega, by go_num, hnew⟩, ?_⟩
        simp [intOf]; omega
    · obtain rfl : j = m := by omega
      have hre : Hid (Re 27 w.heap.size wr u8 es ∧ Below w.heap.size w wr) := by
        have := hs.out
        rw [List.take_of_length_le (by rw [elen.out]; exact Nat.le_refl _)] at this
        exact this
      obtain ⟨ea, ec, hu8, _, _⟩ := own_any (show wr.ownsRow w.heap.size 27 3 u8 es.length (ecs es) from hre.out.1)
      rw [elen.out] at hu8
      subst hu8
      have ev0 := hid hre.out.1.ev
      have b0 := hid hre.out.2
      have hgv := hid (give_ok _ es wr ev0.out (by rw [elen.out]; omega))
      clear hs hre he hm eget hku hmc hmx
      go_wp2_with fail
      refine hgv.out.mono ?_
      rintro e w2 ⟨u2, rfl, r2, b2⟩
      have ev2 := hid (ev0.out.below b2)
      have htr := hid (tree_ok K u2 es w2 r2.ev (by omega) (by rw [elen.out]; omega) eok.out ewr.out)
      replace b2 := bstep b0 b2
      clear b0 ev0 hgv r2
      go_wp2_with fail
      refine htr.out.mono ?_
      rintro e w3 ⟨av, so, rfl, so1, m3, b3⟩
      have ev3 := hid (ev2.out.below b3)
      obtain ⟨p, hp⟩ : ∃ p : Nat → Bool, p = fun i => decide (i ∈ kr (eA es) (eB es) (fun x => x) so) := ⟨_, rfl⟩
      rw [← hp, elen.out] at m3
      rw [elen.out] at so1
      have hpi : Hid (∀ i, p i = decide (i ∈ kr (eA es) (eB es) (fun x => x) so)) := fun i => by rw [hp]
      have bv3 := m3.bv
      replace b3 := bstep b2 b3
      replace so1 := hid so1
      obtain ⟨s, hss⟩ : ∃ s, wsum (eW es) (kr (eA es) (eB es) (fun x => x) so) = s := ⟨_, rfl⟩
      rw [hss]
      replace hss := hid hss
      obtain ⟨aa, ac, rfl, mac, mac2, mcell⟩ := bv3
      replace mcell := hid mcell
      have hnat : Hid (∀ i, i < j → es[i]? = some ⟨(eA es i : Int), (eB es i : Int), eW es i⟩ ∧ eA es i < K ∧ eB es i < K) := fun i hi => by
        obtain ⟨q1, q2, q3⟩ := eok.out.nat (i := i) (by rw [elen.out]; exact hi)
        exact ⟨q1, by omega, by omega⟩
      have hAB : Hid (∀ i, i < j → eA es i < K ∧ eB es i < K) := fun i hi => (hnat.out i hi).2
      have hwr := hid (fun i => ewr.out.at i)
      obtain ⟨A, hA⟩ : ∃ A, A = eA es := ⟨_, rfl⟩
      obtain ⟨B, hB⟩ : ∃ B, B = eB es := ⟨_, rfl⟩
      obtain ⟨W, hW⟩ : ∃ W, W = eW es := ⟨_, rfl⟩
      have hless : Hid (∀ i k, i < j → k < j → ∀ y, Below w3.heap.size w3 y → Calls Try.prog 12 #[.slice ea j ec, .int .i64 (i : Int), .int .i64 (k : Int)] y fun e w' => ∃ r : Bool, e = .returned (.bool r) ∧ (r = true ↔ Lw (eW es) i k) ∧ Below y.heap.size y w') := fun i k hi hk y hy => by
        refine (rless_ok _ es i k y (ev3.out.below hy) (by rw [elen.out]; exact hi) (by rw [elen.out]; exact hk)).mono ?_
        rintro e w' ⟨rfl, q, rfl⟩
        exact ⟨_, rfl, by simp, belowN (Below.refl _ _) q⟩
      obtain ⟨ea', ej', ec', e1, ees, _, _⟩ := ev3.out
      simp only [Value.slice.injEq] at e1
      obtain ⟨rfl, rfl, rfl⟩ := e1
      replace ees := hid ees
      rw [← hA, ← hB, ← hW] at hnat hss
      rw [← hA, ← hB] at hAB hpi
      rw [← hW] at hwr hless so1
      clear hA hB hW hp m3 b2 ev2 ev3 htr eok ewr elen
      obtain ⟨m, rfl⟩ : ∃ m, m = j := ⟨_, rfl⟩
      go_wp2_with fail
      refine (rnew_ok K w3 hK1 (by omega)).mono ?_
      rintro e w4 ⟨u4, rfl, l4, b4⟩
      replace l4 := hid l4
      replace b4 := hid b4
      go_wp2_with fail
      refine (rnew_ok K w4 hK1 (by omega)).mono ?_
      rintro e w5 ⟨u5, rfl, l5, b5⟩
      have st0 : Hid (Ls w5 u4 K (jl A B (fun x => x) (List.range 0)) ∧ Ls w5 u5 K (jl A B (fun x => x) (mk9 p 0)) ∧ (0 : Int) = wsum W (mk9 p 0) ∧ Below w3.heap.size w3 w5) := by
        refine ⟨l4.out.below b5, l5, by simp [mk9, wsum], (bstep b4 b5).out⟩
      clear l4 l5 b4 b5
      go_wp2_with fail
      go_loopw [13, 14, 15, 16, 17, 18] (fun s13 s14 s15 s16 _ _ wr => ∃ (i : Nat) (T : Int), i ≤ m ∧ s16 = .int .i64 (i : Int) ∧ s15 = .int .i64 T ∧ Hid (Ls wr s13 K (jl A B (fun x => x) (List.range i)) ∧ Ls wr s14 K (jl A B (fun x => x) (mk9 p i)) ∧ T = wsum W (mk9 p i) ∧ Below w3.heap.size w3 wr))
        (fun _ _ _ s16 _ _ _ => m - (intOf s16).toNat)
      case atStart => exact ⟨0, 0, by omega, by go_num, rfl, st0⟩
      case round =>
        obtain ⟨i, T, hi, rfl, rfl, hst⟩ := hrel
        clear st0
        rcases Nat.lt_or_ge i m with hlt | hge
        · obtain ⟨hli, hAi, hBi⟩ := hnat.out i hlt
          obtain ⟨g, o, rfl, c0, c1, c2⟩ := (ees.out.below hst.out.2.2.2).cell i _ hli
          simp only [] at c0 c1 c2
          obtain ⟨ga, og, rfl, cm0⟩ := mcell.out i hlt
          have cm := (hst.out.2.2.2.cell (World.block_lt_of_cell? _ _ cm0)).trans cm0
          have hj1 := hid (fun y (hy : Below wr.heap.size wr y) => rjoin_any u13 K (A i) (B i) _ y (hst.out.1.below hy) hAi hBi (by omega) (fun x => jl_le (A := A) (B := B) (List.range i) x))
          have hl2 := hid hst.out.2.1
          have hT := hid hst.out.2.2.1
          have hbr := hid hst.out.2.2.2
          have hz := hwr.out i
          have hTb : -(2147483648 * 30) ≤ T ∧ T ≤ 2147483648 * 30 := by
            have h1 := wsum_bound hwr.out (mk9 p i)
            have h2 : (mk9 p i).length ≤ i := by
              unfold mk9
              have := List.length_filter_le p (List.range i)
              simpa using this
            rw [← hT.out] at h1
            omega
          obtain ⟨x, hx⟩ : ∃ x, x = A i := ⟨_, rfl⟩
          obtain ⟨y, hy⟩ : ∃ y, y = B i := ⟨_, rfl⟩
          obtain ⟨z, hzz⟩ : ∃ z, z = W i := ⟨_, rfl⟩
          rw [← hx] at c0 hj1 hAi
          rw [← hy] at c1 hj1 hBi
          rw [← hzz] at c2 hz
          have hz1' : IntKind.i64.wrap z = z := by rw [IntKind.wrap_i64]; omega
          have hz2' : IntKind.i64.wrap (T + z) = T + z := by rw [IntKind.wrap_i64]; omega
          replace hx := hid hx
          replace hy := hid hy
          replace hzz := hid hzz
          have i1 : (0 : Int) ≤ (i : Int) := by omega
          have i2 : (i : Int) < (m : Int) := by omega
          clear hli hst cm0 hz hTb
          go_wp2_with fail
          go_region_held3 (fun y' => y'.cell? ⟨g, o + i * 3, none⟩ = some (.int .i64 (x : Int)) ∧ y'.cell? ⟨g, o + i * 3 + 1, none⟩ = some (.int .i64 (y : Int))) (first | exact ⟨c0', c1'⟩ | go_keep) ((go_at_call 10; refine (hj1.out _ (Below.refl _ _).drew).mono ?_; rintro e w6 ⟨u6, t6, rfl, ht6, l6, b6⟩; replace ht6 := hid ht6; have b6' : Below wr.heap.size wr w6 := ((Below.refl _ _).drew).trans b6; have c0' := (b6'.cell (World.block_lt_of_cell? _ _ c0)).trans c0; have c1' := (b6'.cell (World.block_lt_of_cell? _ _ c1)).trans c1))
          have c2' := (b6'.cell (World.block_lt_of_cell? _ _ c2)).trans c2
          have cm' := (b6'.cell (World.block_lt_of_cell? _ _ cm)).trans cm
          have hl2' := hid (hl2.out.below b6')
          have l6' : Hid (Ls w6 u6 K (jl A B (fun x => x) (List.range (i + 1)))) := by rw [jl_range, ← hx.out, ← hy.out]; exact hid l6
          have hb6 := bstep hbr b6'
          clear c0 c1 c2 cm hl2 l6 b6 b6' hbr hj1 ht6
          cases hpi' : p i with
          | false =>
            rw [hpi'] at cm'
            have hnext : Hid (Ls w6 u6 K (jl A B (fun x => x) (List.range (i + 1))) ∧ Ls w6 u14 K (jl A B (fun x => x) (mk9 p (i + 1))) ∧ T = wsum W (mk9 p (i + 1)) ∧ Below w3.heap.size w3 w6) := by
              rw [mk9_no hpi']
              exact ⟨l6'.out, hl2'.out, hT.out, hb6.out⟩
            clear hpi' l6' hl2' hT hb6 c0' c1' c2'
            go_wp2_with fail
            go_roundw
            case rel => exact ⟨i + 1, T, by omega, by go_num, rfl, hnext⟩
            case measure => simp [intOf]; omega
          | true =>
            rw [hpi'] at cm'
            have hturn := So.turn (Lw.lin _ _) so1.out hAB.out hpi.out hlt hpi'
            rw [← hx.out, ← hy.out] at hturn
            have hj2 := hid (fun y' (hy' : Below w6.heap.size w6 y') => rjoin_any u14 K x y _ y' (hl2'.out.below hy') hAi hBi (by omega) (fun x => jl_le (A := A) (B := B) (mk9 p i) x))
            replace hturn := hid hturn
            replace hpi' := hid hpi'
            clear hl2'
            go_wp2_with fail
            clear cm'
            go_region_held3 (fun y' => y'.cell? ⟨g, o + i * 3, none⟩ = some (.int .i64 (x : Int)) ∧ y'.cell? ⟨g, o + i * 3 + 1, none⟩ = some (.int .i64 (y : Int))) (first | exact ⟨c0'', c1''⟩ | go_keep) ((go_at_call 10; refine (hj2.out _ (Below.refl _ _).drew).mono ?_; rintro e w7 ⟨u7, t7, rfl, ht7, l7, b7⟩; replace ht7 := hid ht7; have b7' : Below w6.heap.size w6 w7 := ((Below.refl _ _).drew).trans b7; have c0'' := (b7'.cell (World.block_lt_of_cell? _ _ c0')).trans c0'; have c1'' := (b7'.cell (World.block_lt_of_cell? _ _ c1')).trans c1'))
            have c2'' := (b7'.cell (World.block_lt_of_cell? _ _ c2')).trans c2'
            obtain rfl : t7 = true := by rw [ht7.out, decide_eq_false hturn.out]; rfl
            have hnext : Hid (Ls w7 u6 K (jl A B (fun x => x) (List.range (i + 1))) ∧ Ls w7 u7 K (jl A B (fun x => x) (mk9 p (i + 1))) ∧ T + z = wsum W (mk9 p (i + 1)) ∧ Below w3.heap.size w3 w7) := by
              rw [mk9_yes hpi'.out, jl_push, wsum_append, ← hx.out, ← hy.out, ← hT.out, hzz.out]
              exact ⟨l6'.out.below b7', l7, by simp [wsum], (bstep hb6 b7').out⟩
            clear hpi' l6' hT hb6 c0' c1' c2' c0'' c1'' hturn ht7 l7 b7 b7' hj2
            go_wp2_with fail
            go_roundw
            case rel => exact ⟨i + 1, T + z, by omega, by go_num, rfl, hnext⟩
            case measure => simp [intOf]; omega
        · obtain rfl : i = m := by omega
          obtain ⟨lA, lG, hT, hbr⟩ := hst.out
          have hTs : T = s := by
            rw [hT, ← hss.out]
            exact So.total (Lw.lin _ _) so1.out hpi.out
          subst hTs
          have hlab := So.allLab (A := A) (B := B) (Lw.lin _ _) so1.out hpi.out
          rw [hlab] at lG
          have hc1 := hid (rcount_ok _ K _ wr lG (by omega))
          have hc2 := hid (rcount_ok _ K _ wr lA (by omega))
          obtain ⟨F, hF⟩ : ∃ F, fix K (jl A B (fun x => x) (List.range i)) = F := ⟨_, rfl⟩
          rw [hF] at hc1 hc2
          replace hbr := hid hbr
          have t1 : (T != T) = false := by simp
          have t2 : ((F : Int) != (F : Int)) = false := by simp
          clear lA lG hT hst hlab hF
          obtain ⟨w6, hw6⟩ : ∃ w6, w6 = wr := ⟨wr, rfl⟩
          subst hw6
          obtain ⟨m, rfl⟩ : ∃ m, m = i := ⟨_, rfl⟩
          go_wp2_with fail
          refine hc1.out.mono ?_
          rintro e w7 ⟨rfl, rfl⟩
          clear hc1
          go_wp2_with fail
          refine hc2.out.mono ?_
          rintro e w8 ⟨rfl, rfl⟩
          clear hc2
          go_wp2_with fail
          go_loopw [19, 20, 21] (fun s19 _ _ wr => ∃ i : Nat, i ≤ m ∧ s19 = .int .i64 (i : Int) ∧ Hid (Below w3.heap.size w3 wr))
            (fun s19 _ _ _ => m - (intOf s19).toNat)
          case atStart => exact ⟨0, by omega, by go_num, hbr⟩
          case round =>
            obtain ⟨i, hi, rfl, hb⟩ := hrel
            clear hbr
            rcases Nat.lt_or_ge i m with hlt | hge
            · obtain ⟨ga, og, rfl, cm0⟩ := mcell.out i hlt
              have cm := (hb.out.cell (World.block_lt_of_cell? _ _ cm0)).trans cm0
              have i1 : (0 : Int) ≤ (i : Int) := by omega
              have i2 : (i : Int) < (m : Int) := by omega
              clear cm0
              cases hpi' : p i with
              | true =>
                rw [hpi'] at cm
                clear hpi'
                go_wp2_with fail
                go_roundw
                case rel => exact ⟨i + 1, by omega, by go_num, hb⟩
                case measure => simp [intOf]; omega
              | false =>
                rw [hpi'] at cm
                obtain ⟨q, hq⟩ : ∃ q : Nat → Bool, ∀ j, (q j = true ↔ p j = true ∧ Lw W j i) := ⟨fun j => @decide (p j = true ∧ Lw W j i) (Classical.propDecidable _), fun j => by simp⟩
                have hnk : i ∉ kr A B (fun x => x) so := by
                  have := hpi.out i
                  rw [hpi'] at this
                  exact of_decide_eq_false this.symm
                have hring : Hid (jl A B (fun x => x) (mk9 q m) (A i) = jl A B (fun x => x) (mk9 q m) (B i)) := hid (So.ring (Lw.lin _ _) so1.out hlt hnk (fun j hj => by rw [hq j, hpi.out j]; simp))
                replace hq := hid hq
                clear hpi' hnk
                go_wp2_with fail
                refine (rnew_ok K wr hK1 (by omega)).mono ?_
                rintro e w9 ⟨u9, rfl, l9, b9⟩
                have st0 : Hid (Ls w9 u9 K (jl A B (fun x => x) (mk9 q 0)) ∧ Below w3.heap.size w3 w9) := ⟨l9, (bstep hb b9).out⟩
                clear l9 b9 hb cm
                go_wp2_with fail
                go_loopw [20, 21] (fun s20 s21 wr => ∃ j : Nat, j ≤ m ∧ s21 = .int .i64 (j : Int) ∧ Hid (Ls wr s20 K (jl A B (fun x => x) (mk9 q j)) ∧ Below w3.heap.size w3 wr))
                  (fun _ s21 _ => m - (intOf s21).toNat)
                case atStart => exact ⟨0, by omega, by go_num, st0⟩
                case round =>
                  obtain ⟨j, hj, rfl, hst⟩ := hrel
                  clear st0
                  rcases Nat.lt_or_ge j m with hjlt | hjge
                  · obtain ⟨gm, om, hgm, cm1⟩ := mcell.out j hjlt
                    simp only [Option.some.injEq, Addr.mk.injEq, and_true] at hgm
                    obtain ⟨rfl, rfl⟩ := hgm
                    have cmj := (hst.out.2.cell (World.block_lt_of_cell? _ _ cm1)).trans cm1
                    have i3 : (0 : Int) ≤ (j : Int) := by omega
                    have i4 : (j : Int) < (m : Int) := by omega
                    clear cm1
                    cases hpj : p j with
                    | false =>
                      rw [hpj] at cmj
                      have hqj : q j = false := by
                        cases hqj : q j with
                        | false => rfl
                        | true => have := (hq.out j).1 hqj; rw [hpj] at this; cases this.1
                      have hnext : Hid (Ls wr u20 K (jl A B (fun x => x) (mk9 q (j + 1))) ∧ Below w3.heap.size w3 wr) := by rw [mk9_no hqj]; exact hst
                      clear hpj hqj hst
                      go_wp2_with fail
                      go_roundw
                      case rel => exact ⟨j + 1, by omega, by go_num, hnext⟩
                      case measure => simp [intOf]; omega
                    | true =>
                      rw [hpj] at cmj
                      have hls := hid (hless.out j i hjlt hlt wr hst.out.2)
                      replace hpj := hid hpj
                      go_wp2_with fail
                      refine hls.out.mono ?_
                      rintro e w10 ⟨r, rfl, hr, b10⟩
                      have hqr : Hid (q j = r) := hid (by
                        rw [Bool.eq_iff_iff, hq.out j, hpj.out, hr]
                        simp)
                      have hst' := hid (And.intro (hst.out.1.below b10) (bstep (hid hst.out.2) b10).out)
                      clear hls hr b10 hst cmj hpj
                      cases r with
                      | false =>
                        have hnext : Hid (Ls w10 u20 K (jl A B (fun x => x) (mk9 q (j + 1))) ∧ Below w3.heap.size w3 w10) := by rw [mk9_no hqr.out]; exact hst'
                        clear hqr hst'
                        go_wp2_with fail
                        go_roundw
                        case rel => exact ⟨j + 1, by omega, by go_num, hnext⟩
                        case measure => simp [intOf]; omega
                      | true =>
                        obtain ⟨hli, hAi, hBi⟩ := hnat.out j hjlt
                        obtain ⟨g, o, hgo, c0, c1, _⟩ := (ees.out.below hst'.out.2).cell j _ hli
                        subst hgo
                        simp only [] at c0 c1
                        have hj1 := hid (fun y (hy : Below w10.heap.size w10 y) => rjoin_any u20 K (A j) (B j) _ y (hst'.out.1.below hy) hAi hBi (by omega) (fun x => jl_le (A := A) (B := B) (mk9 q j) x))
                        have hjl := hid (fun (f : Nat → Nat) (hf : f = jn (jl A B (fun x => x) (mk9 q j)) (A j) (B j)) => show f = jl A B (fun x => x) (mk9 q (j + 1)) from by rw [mk9_yes hqr.out, jl_push]; exact hf)
                        have hb10 := hid hst'.out.2
                        obtain ⟨x, hx⟩ : ∃ x, x = A j := ⟨_, rfl⟩
                        obtain ⟨y, hy⟩ : ∃ y, y = B j := ⟨_, rfl⟩
                        rw [← hx] at c0 hj1 hjl
                        rw [← hy] at c1 hj1 hjl
                        clear hx hy hli hAi hBi hst' hqr
                        go_wp2_with fail
                        go_region_held3 (fun y' => y'.cell? ⟨g, o + j * 3, none⟩ = some (.int .i64 (x : Int)) ∧ y'.cell? ⟨g, o + j * 3 + 1, none⟩ = some (.int .i64 (y : Int))) (first | exact ⟨c0', c1'⟩ | go_keep) ((go_at_call 10; refine (hj1.out _ (Below.refl _ _).drew).mono ?_; rintro e w11 ⟨u11, t11, rfl, ht11, l11, b11⟩; replace ht11 := hid ht11; have b11' : Below w10.heap.size w10 w11 := ((Below.refl _ _).drew).trans b11; have c0' := (b11'.cell (World.block_lt_of_cell? _ _ c0)).trans c0; have c1' := (b11'.cell (World.block_lt_of_cell? _ _ c1)).trans c1))
                        have hnext : Hid (Ls w11 u11 K (jl A B (fun x => x) (mk9 q (j + 1))) ∧ Below w3.heap.size w3 w11) := by rw [← hjl.out _ rfl]; exact ⟨l11, (bstep hb10 b11').out⟩
                        clear c0 c1 c0' c1' l11 b11 b11' ht11 hj1 hjl hb10
                        go_wp2_with fail
                        go_roundw
                        case rel => exact ⟨j + 1, by omega, by go_num, hnext⟩
                        case measure => simp [intOf]; omega
                  · obtain rfl : j = m := by omega
                    obtain ⟨hli, hAi, hBi⟩ := hnat.out i hlt
                    obtain ⟨g, o, hgo, c0, c1, _⟩ := (ees.out.below hst.out.2).cell i _ hli
                    subst hgo
                    simp only [] at c0 c1
                    obtain ⟨gb, gc, hu20, gle, gcm, _, _, _, hcl⟩ := hst.out.1
                    subst hu20
                    have cA := hcl _ hAi
                    have cB := hcl _ hBi
                    rw [hring.out] at cA
                    generalize jl A B (fun x => x) (mk9 q j) (B i) = lb at cA cB
                    have hbr2 := hid hst.out.2
                    obtain ⟨x, hx⟩ : ∃ x, x = A i := ⟨_, rfl⟩
                    obtain ⟨y, hy⟩ : ∃ y, y = B i := ⟨_, rfl⟩
                    rw [← hx] at c0 cA hAi
                    rw [← hy] at c1 cB hBi
                    have i5 : (0 : Int) ≤ (x : Int) := by omega
                    have i6 : (x : Int) < (K : Int) := by omega
                    have i7 : (0 : Int) ≤ (y : Int) := by omega
                    have i8 : (y : Int) < (K : Int) := by omega
                    have t3 : ((lb : Int) != (lb : Int)) = false := by simp
                    clear hx hy hli hst hcl hring hq
                    go_wp2_with fail
                    go_quiet (fail)
                    go_wp2_with fail
                    go_roundw
                    case rel => exact ⟨i + 1, by omega, by go_num, belowN hbr2.out _⟩
                    case measure => simp [intOf]; omega
            · obtain rfl : i = m := by omega
              obtain ⟨m, rfl⟩ : ∃ m, m = i := ⟨_, rfl⟩
              obtain ⟨c, hcd⟩ : ∃ c : Nat → Nat, c = fun i => (wrap64 ((IntKind.u64.wrap (zs.getD i 0)).tmod (m : Int))).toNat := ⟨_, rfl⟩
              have hcv : Hid (∀ i z, zs[i]? = some z → m ≠ 0 → wrap64 ((IntKind.u64.wrap z).tmod (m : Int)) = (c i : Int) ∧ c i < m) := fun i z hz hm0 => by
                obtain ⟨a, ha, ha2⟩ := mod_inN z m (by omega) (by omega)
                have : c i = a := by rw [hcd]; simp only []; rw [List.getD_eq_getElem?_getD, hz, Option.getD_some, ha]; simp
                rw [this]
                exact ⟨ha, ha2⟩
              have hcm : Hid (∀ i, i < on' → m ≠ 0 → c i < m) := fun i hi hm0 => by
                obtain ⟨z, hz⟩ : ∃ z, zs[i]? = some z := ⟨_, List.getElem?_eq_getElem (by rw [ol.out]; exact hi)⟩
                exact (hcv.out i z hz hm0).2
              have hmu : IntKind.u64.wrap (m : Int) = (m : Int) := by rw [IntKind.wrap_u64]; omega
              have hfin : Hid (∀ R, R = wsum W (kr A B (fun x => x) (ordL on' m c (on' + m))) → decide (T ≤ R) = true) := fun R hR => decide_eq_true (by
                rw [hR, ← hss.out]
                exact So.least (Lw.lin _ _) so1.out (fun i j h => h.le) (fun x => ordL_mem hcm.out x) hAB.out)
              clear hcd hss so1 hpi hless mcell
              go_wp2_with fail
              refine (rnew_ok K wr hK1 (by omega)).mono ?_
              rintro e w12 ⟨u12, rfl, l12, b12⟩
              have st0 : Hid (Ls w12 u12 K (jl A B (fun x => x) (ordL on' m c 0)) ∧ (0 : Int) = wsum W (kr A B (fun x => x) (ordL on' m c 0)) ∧ Below w3.heap.size w3 w12) := ⟨l12, by simp [ordL, kr, wsum], (bstep hb b12).out⟩
              clear l12 b12 hb
              go_wp2_with fail
              go_loopw [22, 23, 24, 25, 26, 27] (fun s22 s23 s24 _ _ _ wr => ∃ (i : Nat) (R : Int), i ≤ on' + m ∧ s24 = .int .i64 (i : Int) ∧ s23 = .int .i64 R ∧ Hid (Ls wr s22 K (jl A B (fun x => x) (ordL on' m c i)) ∧ R = wsum W (kr A B (fun x => x) (ordL on' m c i)) ∧ Below w3.heap.size w3 wr))
                (fun _ _ s24 _ _ _ _ => on' + m - (intOf s24).toNat)
              case atStart => exact ⟨0, 0, by omega, by go_num, rfl, st0⟩
              case round =>
                obtain ⟨i, R, hi, rfl, rfl, hst⟩ := hrel
                clear st0
                rcases Nat.lt_or_ge i (on' + m) with hlt | hge
                · have i1 : (0 : Int) ≤ (i : Int) := by omega
                  have t0 : decide ((i : Int) < (on' : Int) + (m : Int)) = true := decide_eq_true (by omega)
                  by_cases hio : i < on'
                  · have i2 : (i : Int) < (on' : Int) := by omega
                    have t5 : decide ((i : Int) < (on' : Int)) = true := decide_eq_true i2
                    by_cases hm0 : m = 0
                    · have hnext : Hid (Ls wr u22 K (jl A B (fun x => x) (ordL on' m c (i + 1))) ∧ R = wsum W (kr A B (fun x => x) (ordL on' m c (i + 1))) ∧ Below w3.heap.size w3 wr) := by rw [ordL_none hio hm0]; exact hst
                      subst hm0
                      clear hst
                      go_wp2_with fail
                      go_roundw
                      case rel => exact ⟨i + 1, R, by omega, by go_num, rfl, hnext⟩
                      case measure => simp [intOf]; omega
                    · obtain ⟨zv, hzv⟩ : ∃ z, zs[i]? = some z := ⟨_, List.getElem?_eq_getElem (by rw [ol.out]; exact hio)⟩
                      obtain ⟨go, oo, hgo', co0⟩ := oce.out i zv hzv
                      subst hgo'
                      have hbw := bstep b3 hst.out.2.2
                      have co := (hbw.out.cell (World.block_lt_of_cell? _ _ co0)).trans co0
                      obtain ⟨hct, htm⟩ := hcv.out i zv hzv hm0
                      have hm1 : ¬ ((m : Int) = 0) := by omega
                      have t6 : ((m : Int) == 0) = false := by simp; omega
                      obtain ⟨t, ht⟩ : ∃ t, t = c i := ⟨_, rfl⟩
                      rw [← ht] at hct htm
                      have hord : Hid (ordL on' m c (i + 1) = ordL on' m c i ++ [t]) := by rw [ht]; exact hid (ordL_other hio hm0)
                      clear hzv co0 hbw ht
                      go_wp2_with fail
                      rw [hct]
                      clear hct co
                      obtain ⟨hli, hAi, hBi⟩ := hnat.out t htm
                      obtain ⟨g, o, hgo, c0, c1, c2⟩ := (ees.out.below hst.out.2.2).cell t _ hli
                      subst hgo
                      simp only [] at c0 c1 c2
                      have hj1 := hid (fun y (hy : Below wr.heap.size wr y) => rjoin_any u22 K (A t) (B t) _ y (hst.out.1.below hy) hAi hBi (by omega) (fun x => jl_le (A := A) (B := B) (ordL on' m c i) x))
                      have hz := hwr.out t
                      have hRb : -(2147483648 * 12) ≤ R ∧ R ≤ 2147483648 * 12 := by
                        have h1 := wsum_bound hwr.out (kr A B (fun x => x) (ordL on' m c i))
                        have h2 := kr_count (A := A) (B := B) (n := K) (ordL on' m c i) _ Lab.start (fun k hk => hAB.out k (ordL_lt hcm.out i (by omega) k hk))
                        rw [fix_start] at h2
                        rw [← hst.out.2.1] at h1
                        omega
                      have hstep : Hid (∀ (tb : Bool) (f : Nat → Nat), tb = (!decide (jl A B (fun x => x) (ordL on' m c i) (A t) = jl A B (fun x => x) (ordL on' m c i) (B t))) → f = jn (jl A B (fun x => x) (ordL on' m c i)) (A t) (B t) → f = jl A B (fun x => x) (ordL on' m c (i + 1)) ∧ (R + if tb then W t else 0) = wsum W (kr A B (fun x => x) (ordL on' m c (i + 1)))) := by
                        intro tb f ht hf
                        rw [hord.out, jl_push, kr_push]
                        refine ⟨hf, ?_⟩
                        by_cases he : jl A B (fun x => x) (ordL on' m c i) (A t) = jl A B (fun x => x) (ordL on' m c i) (B t)
                        · rw [ht, decide_eq_true he, if_pos he, hst.out.2.1]; simp
                        · rw [ht, decide_eq_false he, if_neg he, hst.out.2.1, wsum_append]; simp [wsum]
                      have hbr := hid hst.out.2.2
                      obtain ⟨x, hx⟩ : ∃ x, x = A t := ⟨_, rfl⟩
                      obtain ⟨y, hy⟩ : ∃ y, y = B t := ⟨_, rfl⟩
                      obtain ⟨z, hzz⟩ : ∃ z, z = W t := ⟨_, rfl⟩
                      rw [← hx] at c0 hj1 hstep
                      rw [← hy] at c1 hj1 hstep
                      rw [← hzz] at c2 hz hstep
                      have hz1' : IntKind.i64.wrap z = z := by rw [IntKind.wrap_i64]; omega
                      have hz2' : IntKind.i64.wrap (R + z) = R + z := by rw [IntKind.wrap_i64]; omega
                      have i5 : (0 : Int) ≤ (t : Int) := by omega
                      have i6 : (t : Int) < (m : Int) := by omega
                      clear hx hy hzz hli hAi hBi hst hz hRb
                      go_region_held3 (fun y' => y'.cell? ⟨g, o + t * 3, none⟩ = some (.int .i64 (x : Int)) ∧ y'.cell? ⟨g, o + t * 3 + 1, none⟩ = some (.int .i64 (y : Int))) (first | exact ⟨c0', c1'⟩ | go_keep) ((go_at_call 10; refine (hj1.out _ (Below.refl _ _).drew).mono ?_; rintro e w14 ⟨u14, t14, rfl, ht14, l14, b14⟩; replace ht14 := hid ht14; have b14' : Below wr.heap.size wr w14 := ((Below.refl _ _).drew).trans b14; have c0' := (b14'.cell (World.block_lt_of_cell? _ _ c0)).trans c0; have c1' := (b14'.cell (World.block_lt_of_cell? _ _ c1)).trans c1))
                      have c2' := (b14'.cell (World.block_lt_of_cell? _ _ c2)).trans c2
                      obtain ⟨hj2, hj3⟩ := hstep.out t14 _ ht14.out rfl
                      have hnext : Hid (Ls w14 u14 K (jl A B (fun x => x) (ordL on' m c (i + 1))) ∧ (R + if t14 then z else 0) = wsum W (kr A B (fun x => x) (ordL on' m c (i + 1))) ∧ Below w3.heap.size w3 w14) := by rw [← hj2]; exact ⟨l14, hj3, (bstep hbr b14').out⟩
                      clear c0 c1 c2 c0' c1' l14 b14 b14' ht14 hj1 hbr hj2 hj3 hstep
                      cases t14 with
                      | false =>
                        go_wp2_with fail
                        go_roundw
                        case rel => exact ⟨i + 1, R, by omega, by go_num, rfl, by simpa using hnext⟩
                        case measure => simp [intOf]; omega
                      | true =>
                        go_wp2_with fail
                        go_roundw
                        case rel => exact ⟨i + 1, R + z, by omega, by go_num, rfl, hnext⟩
                        case measure => simp [intOf]; omega
                  · have i2 : ¬ ((i : Int) < (on' : Int)) := by omega
                    have t5 : decide ((i : Int) < (on' : Int)) = false := decide_eq_false i2
                    obtain ⟨t, ht⟩ : ∃ t, t = i - on' := ⟨_, rfl⟩
                    have htm : t < m := by omega
                    have hct : Hid ((i : Int) - (on' : Int) = (t : Int)) := hid (by omega)
                    have hord : Hid (ordL on' m c (i + 1) = ordL on' m c i ++ [t]) := by rw [ht]; exact hid (ordL_rest hio)
                    clear ht
                    go_wp2_with fail
                    rw [hct.out]
                    clear hct
                    obtain ⟨hli, hAi, hBi⟩ := hnat.out t htm
                    obtain ⟨g, o, hgo, c0, c1, c2⟩ := (ees.out.below hst.out.2.2).cell t _ hli
                    subst hgo
                    simp only [] at c0 c1 c2
                    have hj1 := hid (fun y (hy : Below wr.heap.size wr y) => rjoin_any u22 K (A t) (B t) _ y (hst.out.1.below hy) hAi hBi (by omega) (fun x => jl_le (A := A) (B := B) (ordL on' m c i) x))
                    have hz := hwr.out t
                    have hRb : -(2147483648 * 12) ≤ R ∧ R ≤ 2147483648 * 12 := by
                      have h1 := wsum_bound hwr.out (kr A B (fun x => x) (ordL on' m c i))
                      have h2 := kr_count (A := A) (B := B) (n := K) (ordL on' m c i) _ Lab.start (fun k hk => hAB.out k (ordL_lt hcm.out i (by omega) k hk))
                      rw [fix_start] at h2
                      rw [← hst.out.2.1] at h1
                      omega
                    have hstep : Hid (∀ (tb : Bool) (f : Nat → Nat), tb = (!decide (jl A B (fun x => x) (ordL on' m c i) (A t) = jl A B (fun x => x) (ordL on' m c i) (B t))) → f = jn (jl A B (fun x => x) (ordL on' m c i)) (A t) (B t) → f = jl A B (fun x => x) (ordL on' m c (i + 1)) ∧ (R + if tb then W t else 0) = wsum W (kr A B (fun x => x) (ordL on' m c (i + 1)))) := by
                      intro tb f ht hf
                      rw [hord.out, jl_push, kr_push]
                      refine ⟨hf, ?_⟩
                      by_cases he : jl A B (fun x => x) (ordL on' m c i) (A t) = jl A B (fun x => x) (ordL on' m c i) (B t)
                      · rw [ht, decide_eq_true he, if_pos he, hst.out.2.1]; simp
                      · rw [ht, decide_eq_false he, if_neg he, hst.out.2.1, wsum_append]; simp [wsum]
                    have hbr := hid hst.out.2.2
                    obtain ⟨x, hx⟩ : ∃ x, x = A t := ⟨_, rfl⟩
                    obtain ⟨y, hy⟩ : ∃ y, y = B t := ⟨_, rfl⟩
                    obtain ⟨z, hzz⟩ : ∃ z, z = W t := ⟨_, rfl⟩
                    rw [← hx] at c0 hj1 hstep
                    rw [← hy] at c1 hj1 hstep
                    rw [← hzz] at c2 hz hstep
                    have hz1' : IntKind.i64.wrap z = z := by rw [IntKind.wrap_i64]; omega
                    have hz2' : IntKind.i64.wrap (R + z) = R + z := by rw [IntKind.wrap_i64]; omega
                    have i5 : (0 : Int) ≤ (t : Int) := by omega
                    have i6 : (t : Int) < (m : Int) := by omega
                    clear hx hy hzz hli hAi hBi hst hz hRb
                    go_region_held3 (fun y' => y'.cell? ⟨g, o + t * 3, none⟩ = some (.int .i64 (x : Int)) ∧ y'.cell? ⟨g, o + t * 3 + 1, none⟩ = some (.int .i64 (y : Int))) (first | exact ⟨c0', c1'⟩ | go_keep) ((go_at_call 10; refine (hj1.out _ (Below.refl _ _).drew).mono ?_; rintro e w14 ⟨u14, t14, rfl, ht14, l14, b14⟩; replace ht14 := hid ht14; have b14' : Below wr.heap.size wr w14 := ((Below.refl _ _).drew).trans b14; have c0' := (b14'.cell (World.block_lt_of_cell? _ _ c0)).trans c0; have c1' := (b14'.cell (World.block_lt_of_cell? _ _ c1)).trans c1))
                    have c2' := (b14'.cell (World.block_lt_of_cell? _ _ c2)).trans c2
                    obtain ⟨hj2, hj3⟩ := hstep.out t14 _ ht14.out rfl
                    have hnext : Hid (Ls w14 u14 K (jl A B (fun x => x) (ordL on' m c (i + 1))) ∧ (R + if t14 then z else 0) = wsum W (kr A B (fun x => x) (ordL on' m c (i + 1))) ∧ Below w3.heap.size w3 w14) := by rw [← hj2]; exact ⟨l14, hj3, (bstep hbr b14').out⟩
                    clear c0 c1 c2 c0' c1' l14 b14 b14' ht14 hj1 hbr hj2 hj3 hstep
                    cases t14 with
                    | false =>
                      go_wp2_with fail
                      go_roundw
                      case rel => exact ⟨i + 1, R, by omega, by go_num, rfl, by simpa using hnext⟩
                      case measure => simp [intOf]; omega
                    | true =>
                      go_wp2_with fail
                      go_roundw
                      case rel => exact ⟨i + 1, R + z, by omega, by go_num, rfl, hnext⟩
                      case measure => simp [intOf]; omega
                · obtain rfl : i = on' + m := by omega
                  have t0 : decide (((on' + m : Nat) : Int) < (on' : Int) + (m : Int)) = false := decide_eq_false (by omega)
                  have hle := hfin.out R hst.out.2.1
                  have hbw := bstep b3 hst.out.2.2
                  clear hst hfin
                  go_wp2_with fail
                  refine (hsure.out _).mono ?_
                  rintro e w20 ⟨rfl, b20⟩
                  have b21 := bstep hbw b20
                  go_wp2_with fail
                  go_ret
                  exact ⟨rfl, b21.out⟩

end Go.Proofs.Ytnlbpjppkfenkaa
