/- The document's Tree, walked: its loops. -/
import Derived.Test.YtnlbpjppkfenkaaDoorRTree9
namespace Go.Proofs.YtnlbpjppkfenkaaDoor
open Go.RowKit
set_option linter.unusedVariables false

open Classical in
set_option maxRecDepth 100000 in
set_option maxHeartbeats 8000000 in
theorem rtree_ok (n : Nat) (v : Value) (l : List Ed) (gr : Bool) (w : World) (hv : EV w v l) (hn1 : 1 ≤ n) (hn : n ≤ 60) (hl : l.length ≤ 60) (hok : Okr (n : Int) l) (hw : Wr l) :
    Calls Tryd.prog 11 #[.int .i64 (n : Int), v, .bool gr] w fun e w' => ∃ mv so, e = .returned (.tuple #[mv, .int .i64 (wsum (eW l) (kr (eA l) (eB l) (fun x => x) so))]) ∧ So l.length (Lg gr (eW l)) so ∧ Rm w.heap.size w' mv l.length (fun i => decide (i ∈ kr (eA l) (eB l) (fun x => x) so)) ∧ Below w.heap.size w w' := by
  obtain ⟨i0, hif, hz0, hz1, hz2⟩ := info_parts infoBool
  obtain ⟨so, hso⟩ := (Lg.lin gr (eW l) l.length).so
  have hnat : Hid (∀ i, i < l.length → l[i]? = some ⟨(eA l i : Int), (eB l i : Int), eW l i⟩ ∧ eA l i < n ∧ eB l i < n) := fun i hi => by
    obtain ⟨q1, q2, q3⟩ := hok.nat hi
    exact ⟨q1, by omega, by omega⟩
  have hless : Hid (∀ i k, i < l.length → k < l.length → ∀ y, Below w.heap.size w y → Calls Tryd.prog 19 #[v, .int .i64 (i : Int), .int .i64 (k : Int)] y fun e w' => e = .returned (.bool (decide (Lw (eW l) i k))) ∧ ∃ m, w' = y.drewN m) := fun i k hi hk y hy => rless_ok v l i k y (hv.below hy) hi hk
  have hwr := hid (fun i => hw.at i)
  have hlin := hid (Lg.lin gr (eW l) l.length)
  obtain ⟨ad, m, cap, rfl, he, _, _⟩ := hv
  have hm := he.len
  rw [hm] at hl hso hnat hless hlin ⊢
  replace he := hid he
  replace hso := hid hso
  clear hok hw hm
  go_enter Tryd.func11, Tryd.ntmps11
  go_wp2_with (at_make; refine wpList_make_full _ rfl (.tmp 14) (.tmp 14) 24 rfl w.heap.size 4 i0 (.bool false) 1 Tryd.underlying24 hif hz0 hz1 .i64 .i64 _ _ m rfl rfl rfl rfl (by rw [hz2]; omega) (by unfold maxLen; omega) (Nat.le_refl _) ?_; intro w1 hown hgrow)
  rw [bl_made] at hown
  obtain ⟨mb, hmb⟩ : ∃ mb, mb = w.heap.size := ⟨_, rfl⟩
  have fin := hid (And.intro hown ((Below.refl _ _).grown hgrow (Nat.le_refl _) (by simp) : Below w.heap.size w w1))
  clear hown hgrow
  have fin' : Hid (w1.ownsRow w.heap.size 4 1 (.slice (some ⟨mb, 0, none⟩) m m) m (bl m (fun _ => false)) ∧ Below w.heap.size w w1) := by rw [hmb]; exact fin
  rw [← hmb]
  clear fin hmb
  go_wp2_with fail
  refine (rnew_ok n w1 hn1 (by omega)).mono ?_
  rintro e w2 ⟨u2, rfl, l2, b2⟩
  have ps0 : Hid (PS w n m (eA l) (eB l) (eW l) so (.slice (some ⟨mb, 0, none⟩) m m) u2 0 w2 [] so) := by
    refine ⟨rfl, l2, ?_, fin'.out.2.trans (b2.mono fin'.out.2.size), by simp [kr, wsum]⟩
    have e : bl m (fun i => decide (i ∈ kr (eA l) (eB l) (fun x => x) [])) = bl m (fun _ => false) := bl_congr (fun i _ => by simp [kr])
    rw [e]
    exact own_more fin'.out.1 b2
  clear l2 b2 fin'
  go_wp2_with fail
  go_loopw [9, 10, 11, 12] (fun s9 s10 _ _ wr => ∃ (S : Int) (a b : List Nat), s10 = .int .i64 S ∧ Hid (PS w n m (eA l) (eB l) (eW l) so (.slice (some ⟨mb, 0, none⟩) m m) s9 S wr a b))
    (fun s9 _ _ _ wr => fixM n wr s9)
  case atStart => exact ⟨0, [], so, rfl, ps0⟩
  case round =>
    obtain ⟨S, a, b, rfl, hps⟩ := hrel
    clear ps0
    obtain ⟨wo, hwo⟩ : ∃ wo, wo = wr := ⟨wr, rfl⟩
    subst hwo
    have hfx := hid (fixM_is hps.out.ls)
    obtain ⟨gb, gc, hu9, gle, gcm, _, _, hgb, hcl⟩ := hps.out.ls
    subst hu9
    replace hcl := hid hcl
    obtain ⟨f, hf⟩ : ∃ f, f = jl (eA l) (eB l) (fun x => x) a := ⟨_, rfl⟩
    rw [← hf] at hcl
    have hfl : Hid (∀ x, f x ≤ x) := fun x => by rw [hf]; exact jl_le a x
    replace hf := hid hf
    go_wp2_with fail
    go_loopw [11, 12] (fun s11 s12 wr => ∃ (j : Nat) (z : Int), j ≤ m ∧ -1 ≤ z ∧ z < (j : Int) ∧ s12 = .int .i64 (j : Int) ∧ s11 = .int .i64 z ∧ Hid (Best (eA l) (eB l) (Lg gr (eW l)) f j z ∧ Below wo.heap.size wo wr))
      (fun _ s12 _ => m - (intOf s12).toNat)
    case atStart => exact ⟨0, -1, by omega, by omega, by omega, by go_num, rfl, .inl ⟨rfl, fun i hi => by omega⟩, Below.refl _ _⟩
    case round =>
      obtain ⟨j, z, hj, hz1, hz2, rfl, rfl, hin⟩ := hrel
      rcases Nat.lt_or_ge j m with hlt | hge
      · obtain ⟨hli, hAi, hBi⟩ := hnat.out j hlt
        have hbi := hid hin.out.2
        have hbe := hid hin.out.1
        obtain ⟨g, o, rfl, c0, c1, _⟩ := (he.out.below hps.out.bel).cell j _ hli
        simp only [] at c0 c1
        have c0' : wr.cell? ⟨g, o + j * 3, none⟩ = some (.int .i64 (eA l j : Int)) := (hbi.out.cell (World.block_lt_of_cell? _ _ c0)).trans c0
        have c1' : wr.cell? ⟨g, o + j * 3 + 1, none⟩ = some (.int .i64 (eB l j : Int)) := (hbi.out.cell (World.block_lt_of_cell? _ _ c1)).trans c1
        have cA : wr.cell? ⟨gb, eA l j, none⟩ = some (.int .i64 (f (eA l j) : Int)) := (hbi.out.cell (World.block_lt_of_cell? _ _ (hcl.out _ hAi))).trans (hcl.out _ hAi)
        have cB : wr.cell? ⟨gb, eB l j, none⟩ = some (.int .i64 (f (eB l j) : Int)) := (hbi.out.cell (World.block_lt_of_cell? _ _ (hcl.out _ hBi))).trans (hcl.out _ hBi)
        obtain ⟨p, hp⟩ : ∃ p, p = f (eA l j) := ⟨_, rfl⟩
        obtain ⟨q, hq⟩ : ∃ q, q = f (eB l j) := ⟨_, rfl⟩
        rw [← hp] at cA
        rw [← hq] at cB
        replace hp := hid hp
        replace hq := hid hq
        obtain ⟨x, hx⟩ : ∃ x, x = eA l j := ⟨_, rfl⟩
        obtain ⟨y, hy⟩ : ∃ y, y = eB l j := ⟨_, rfl⟩
        rw [← hx] at c0' cA hAi
        rw [← hy] at c1' cB hBi
        clear hx hy c0 c1 hli hin
        have i1 : (0 : Int) ≤ (j : Int) := by omega
        have i2 : (j : Int) < (m : Int) := by omega
        have i3 : (0 : Int) ≤ (x : Int) := by omega
        have i4 : (x : Int) < (n : Int) := by omega
        have i5 : (0 : Int) ≤ (y : Int) := by omega
        have i6 : (y : Int) < (n : Int) := by omega
        by_cases hpq : p = q
        · have hnext : Hid (Best (eA l) (eB l) (Lg gr (eW l)) f (j + 1) z) := hid (hbe.out.same (by rw [← hp.out, ← hq.out]; exact hpq))
          subst hpq
          have t1 : ((p : Int) != (p : Int)) = false := by simp
          clear hbe hp hq
          go_wp2_with fail
          go_quiet (fail)
          go_wp2_with fail
          go_roundw
          case rel => exact ⟨j + 1, z, by omega, hz1, by omega, by go_num, rfl, hnext.out, belowN hbi.out _⟩
          case measure => simp [intOf]; omega
        · have hne : Hid (f (eA l j) ≠ f (eB l j)) := hid (by rw [← hp.out, ← hq.out]; exact hpq)
          have t1 : ((p : Int) != (q : Int)) = true := by simp; omega
          clear hp hq
          by_cases hzm : z = -1
          · subst hzm
            have hnext : Hid (Best (eA l) (eB l) (Lg gr (eW l)) f (j + 1) (j : Int)) := hid (hbe.out.first hne.out)
            clear hbe hne
            go_wp2_with fail
            go_quiet (fail)
            go_wp2_with fail
            go_roundw
            case rel => exact ⟨j + 1, j, by omega, by omega, by omega, by go_num, rfl, hnext.out, belowN hbi.out _⟩
            case measure => simp [intOf]; omega
          · obtain ⟨t, rfl⟩ : ∃ t : Nat, z = (t : Int) := ⟨z.toNat, by omega⟩
            have htj : t < j := by omega
            have hls := hid (fun yy (hy : Below wo.heap.size wo yy) => hless.out j t hlt (by omega) yy (hps.out.bel.trans (hy.mono hps.out.bel.size)))
            obtain ⟨r, hr⟩ : ∃ r, r = decide (Lw (eW l) j t) := ⟨_, rfl⟩
            rw [← hr] at hls
            have hrl : Hid ((r != gr) = decide (Lg gr (eW l) j t)) := by rw [hr]; exact hid (Lg.less gr (eW l) (by omega))
            clear hr
            have t2 : decide ((t : Int) < 0) = false := decide_eq_false (by omega)
            have hyes : Hid ((r != gr) = true → Best (eA l) (eB l) (Lg gr (eW l)) f (j + 1) (j : Int)) := fun h => hbe.out.less hlin.out hne.out (by rw [hrl.out] at h; exact of_decide_eq_true h)
            have hno : Hid ((r != gr) = false → Best (eA l) (eB l) (Lg gr (eW l)) f (j + 1) (t : Int)) := fun h => hbe.out.keep hlin.out hlt (by rw [hrl.out] at h; exact of_decide_eq_false h)
            clear hbe hne hrl hzm
            cases r with
            | false =>
              cases gr with
              | false =>
                go_wp2_with fail
                go_quiet ((go_at_call 19; exact Calls.quiet_of (hls.out _ (belowN hbi.out _))))
                go_wp2_with fail
                go_roundw
                case rel => exact ⟨j + 1, t, by omega, by omega, by omega, by go_num, rfl, hno.out rfl, belowN hbi.out _⟩
                case measure => simp [intOf]; omega
              | true =>
                go_wp2_with fail
                go_quiet ((go_at_call 19; exact Calls.quiet_of (hls.out _ (belowN hbi.out _))))
                go_wp2_with fail
                go_roundw
                case rel => exact ⟨j + 1, j, by omega, by omega, by omega, by go_num, rfl, hyes.out rfl, belowN hbi.out _⟩
                case measure => simp [intOf]; omega
            | true =>
              cases gr with
              | false =>
                go_wp2_with fail
                go_quiet ((go_at_call 19; exact Calls.quiet_of (hls.out _ (belowN hbi.out _))))
                go_wp2_with fail
                go_roundw
                case rel => exact ⟨j + 1, j, by omega, by omega, by omega, by go_num, rfl, hyes.out rfl, belowN hbi.out _⟩
                case measure => simp [intOf]; omega
              | true =>
                go_wp2_with fail
                go_quiet ((go_at_call 19; exact Calls.quiet_of (hls.out _ (belowN hbi.out _))))
                go_wp2_with fail
                go_roundw
                case rel => exact ⟨j + 1, t, by omega, by omega, by omega, by go_num, rfl, hno.out rfl, belowN hbi.out _⟩
                case measure => simp [intOf]; omega
      · obtain rfl : j = m := by omega
        have ps2 := hid (hps.out.more hin.out.2)
        have hbe : Hid (Best (eA l) (eB l) (Lg gr (eW l)) (jl (eA l) (eB l) (fun x => x) a) j z) := by rw [← hf.out]; exact hid hin.out.1
        clear hin hcl hfl
        by_cases hzm : z = -1
        · subst hzm
          have hkr : Hid (kr (eA l) (eB l) (fun x => x) so = kr (eA l) (eB l) (fun x => x) a) := by
            rcases hbe.out with ⟨_, h2⟩ | ⟨t, h1, _⟩
            · exact hid (pick_none hso.out ps2.out.e h2)
            · omega
          have hS : Hid (S = wsum (eW l) (kr (eA l) (eB l) (fun x => x) so)) := by rw [hkr.out]; exact hid ps2.out.sum
          have hmk : Hid (Rm w.heap.size wr (.slice (some ⟨mb, 0, none⟩) j j) j (fun i => decide (i ∈ kr (eA l) (eB l) (fun x => x) so))) := by rw [hkr.out]; exact hid ps2.out.ms
          have hb := hid ps2.out.bel
          clear ps2 hkr hbe hps
          go_wp2_with fail
          go_ret2
          exact ⟨_, so, by rw [← hS.out]; rfl, hso.out, hmk.out, hb.out⟩
        · obtain ⟨t, rfl⟩ : ∃ t : Nat, z = (t : Int) := ⟨z.toNat, by omega⟩
          have htm : t < j := by omega
          obtain ⟨hli, hAi, hBi⟩ := hnat.out t htm
          obtain ⟨a', b', e3, hfix, hls3, hb3, hfin⟩ := ps2.out.next hlin.out hso.out hbe.out htm hAi hBi
          replace hfin := hid hfin
          replace hfix := hid hfix
          have cm : wr.cell? ⟨mb, t, none⟩ = some (.bool (decide (t ∈ kr (eA l) (eB l) (fun x => x) a))) := (ps2.out.ms.cellAt t (by omega)).trans (bl_get htm)
          have fm : wr.frozen? ⟨mb, t, none⟩ = false := ps2.out.ms.frozenAt t
          have hS : -(2147483648 * 60) ≤ S ∧ S ≤ 2147483648 * 60 := by
            have h1 := wsum_bound hwr.out (kr (eA l) (eB l) (fun x => x) a)
            have h2 := kr_count (A := eA l) (B := eB l) (n := n) a _ Lab.start (fun i hi => (hnat.out i ((hso.out.mem i).1 (by rw [ps2.out.e]; exact List.mem_append_left _ hi))).2)
            rw [fix_start] at h2
            rw [← ps2.out.sum] at h1
            omega
          have hz := hwr.out t
          obtain ⟨w3, hw3⟩ : ∃ w3, wr.setCell ⟨mb, t, none⟩ (.bool true) = w3 := ⟨_, rfl⟩
          rw [hw3] at hls3 hb3 hfin
          obtain ⟨g, o, rfl, c0, c1, c2⟩ := (he.out.below hb3).cell t _ hli
          simp only [] at c0 c1 c2
          have hjoin := hid (fun y (hy : Below w3.heap.size w3 y) => rjoin_any _ n (eA l t) (eB l t) _ y (hls3.below hy) hAi hBi (by omega) (fun x => jl_le (A := eA l) (B := eB l) a x))
          generalize eW l t = zz at c2 hz hfin
          have hz3 : IntKind.i64.wrap zz = zz := by rw [IntKind.wrap_i64]; omega
          have hz4 : IntKind.i64.wrap (S + zz) = S + zz := by rw [IntKind.wrap_i64]; omega
          have i1 : (0 : Int) ≤ (t : Int) := by omega
          have i2 : (t : Int) < (j : Int) := by omega
          have t2 : decide ((t : Int) < 0) = false := decide_eq_false (by omega)
          clear hli ps2 hbe hps hzm hls3 hb3 hz hS hf
          obtain ⟨x, hx⟩ : ∃ x, x = eA l t := ⟨_, rfl⟩
          obtain ⟨y, hy⟩ : ∃ y, y = eB l t := ⟨_, rfl⟩
          rw [← hx] at c0 hAi hjoin hfin hfix
          rw [← hy] at c1 hBi hjoin hfin hfix
          clear hx hy
          go_wp2_with fail
          try rw [hw3]
          clear hw3 cm fm
          go_region_held3 (fun y' => y'.cell? ⟨g, o + t * 3, none⟩ = some (.int .i64 (x : Int)) ∧ y'.cell? ⟨g, o + t * 3 + 1, none⟩ = some (.int .i64 (y : Int))) (first | exact ⟨c0', c1'⟩ | go_keep) ((go_at_call 20; refine (hjoin.out _ (Below.refl _ _).drew).mono ?_; rintro e w6 ⟨u6, t6, rfl, ht6, l6, b6⟩; replace ht6 := hid ht6; have b6' : Below w3.heap.size w3 w6 := ((Below.refl _ _).drew).trans b6; have c0' := (b6'.cell (World.block_lt_of_cell? _ _ c0)).trans c0; have c1' := (b6'.cell (World.block_lt_of_cell? _ _ c1)).trans c1))
          have hnext := hid (hfin.out w6 u6 b6' l6)
          have hms : Hid (fixM n w6 u6 < fixM n wo (.slice (some ⟨gb, 0, none⟩) n gc)) := by
            rw [hfx.out, fixM_is l6, hfix.out]
            exact hid (Nat.lt_succ_self _)
          clear hfin hfix ht6 l6 b6 b6' c0 c1 c2 c0' c1' hjoin
          go_wp2_with fail
          go_roundw
          case rel => exact ⟨S + zz, a', b', rfl, hnext⟩
          case measure => exact hms.out

end Go.Proofs.YtnlbpjppkfenkaaDoor
