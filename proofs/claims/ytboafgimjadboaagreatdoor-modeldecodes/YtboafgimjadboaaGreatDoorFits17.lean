/- The document's fits, walked. -/
import Derived.Test.YtboafgimjadboaaGreatDoorBref
import Derived.Test.YtboafgimjadboaaGreatDoorRCheck12
import Derived.Test.YtboafgimjadboaaGreatDoorRegion
import Derived.BigQuiet
namespace Go.Proofs.YtboafgimjadboaaGreatDoor
open Go.RowKit
set_option linter.unusedVariables false

theorem map_step {l : List Nat} {f : Nat → Nat} {i d : Nat} (h : l[i]? = some d) : (l.take (i + 1)).map f = (l.take i).map f ++ [f d] := by
  rw [ntake h, List.map_append]; rfl

theorem wraps17 (E : Nat) (h : E < 1000) : wrap64 (E : Int) = (E : Int) ∧ IntKind.i64.wrap (E : Int) = (E : Int) :=
  ⟨IntWalk.wrap64_in _ ⟨by omega, by omega⟩, by rw [IntKind.wrap_i64]; omega⟩

theorem half17 (G G2 : Nat) (h : G < 4294967296) (e : G / 2 = G2) : IntKind.i64.wrap (G : Int) = (G : Int) ∧ (G : Int).tdiv 2 = (G2 : Int) ∧ (G : Int) / 2 = (G2 : Int) ∧ IntKind.u32.wrap (G2 : Int) = (G2 : Int) :=
  ⟨by rw [IntKind.wrap_i64]; omega, by rw [Int.tdiv_eq_ediv_of_nonneg (by omega)]; omega, by omega, wu32 G2 (by omega)⟩

theorem bno {z : Bool} {p : Prop} (hz : z = true ↔ p) (h : p → False) : z = false := by
  cases z with
  | false => rfl
  | true => exact (h (hz.1 rfl)).elim

/-- Nothing twice, all fits. -/
theorem fit_of {m : Mo} (h1 : FairI m.n m.vs) (h2 : FairI m.n m.es) (hl : m.l.length = m.es.length) (hz : ∀ e, e < m.l.length → ¬ Lv m.es e → m.eg e = ez) (hd : ∀ d, d ∈ dtl m → DOk m d) (hn : ((dtl m).map m.nd).Nodup) : Fit m := by
  refine ⟨h1, h2, hl, hz, fun d q => hd d (mem_dtl.2 q), fun a b qa qb e => ?_⟩
  obtain ⟨i, hi⟩ := List.getElem?_of_mem (mem_dtl.2 qa)
  obtain ⟨j, hj⟩ := List.getElem?_of_mem (mem_dtl.2 qb)
  have e1 : ((dtl m).map m.nd)[i]? = some (m.nd a) := by simp [hi]
  have e2 : ((dtl m).map m.nd)[j]? = some (m.nd a) := by rw [e]; simp [hj]
  obtain rfl := Pq.nodup_at hn e1 e2
  exact Option.some.inj (hi.symm.trans hj)

theorem fit_nd {m : Mo} (h : Fit m) : ((dtl m).map m.nd).Nodup := by
  have hn := dts_nd m m.es.length
  have : ∀ l : List Nat, l.Nodup → (∀ x, x ∈ l → Lv m.es (x / 2)) → (l.map m.nd).Nodup := by
    intro l
    induction l with
    | nil => intro _ _; simp
    | cons x l ih =>
      intro hn hx
      obtain ⟨h1, h2⟩ := List.nodup_cons.1 hn
      rw [List.map_cons, List.nodup_cons]
      refine ⟨fun q => ?_, ih h2 (fun y hy => hx y (List.mem_cons_of_mem _ hy))⟩
      obtain ⟨y, hy, e⟩ := List.mem_map.1 q
      have := h.inj y x (hx y (List.mem_cons_of_mem _ hy)) (hx x List.mem_cons_self) e
      exact h1 (this ▸ hy)
  exact this _ hn (fun x hx => mem_dtl.1 hx)

set_option maxRecDepth 100000 in
set_option maxHeartbeats 8000000 in
theorem fits_ok {w : World} {n : Int} {vv ev lv : Value} {m : Mo} (hm : Mp w vv ev lv m) (hn : m.n = n) (hvl : m.vs.length ≤ 400) (hel : m.es.length ≤ 400) (hll : m.l.length ≤ 400) (z : Bool) (hz0 : z = true ↔ Fit m) :
    Calls Tryz.prog 29 #[.agg #[.int .i64 n, vv, ev, lv]] w fun e w' => Below w.heap.size w w' ∧ e = .returned (.bool z) := by
  have hz := hid hz0
  clear hz0
  obtain ⟨i0, hif, hz0, hz1, hz2⟩ := info_parts infoInt
  have hmh := hid hm
  obtain ⟨va, vn, vc, rfl, hV, _, _, _⟩ := hm.vs
  obtain ⟨ea, en, ec, rfl, hE, _, e1, e2⟩ := hm.es
  obtain ⟨la, ln, lc, rfl, hL, l1, l2⟩ := hm.l
  have hen := hid hE.len
  have hln := hid hL.len
  rw [hen.out] at hel
  rw [hln.out] at hll
  obtain ⟨w1, hw1⟩ : ∃ w1, w.alloc (.cells #[.int .i64 n, .slice va vn vc, .slice ea en ec, .slice la ln lc] 25) = w1 := ⟨_, rfl⟩
  have hb1 := balloc w (.cells #[.int .i64 n, .slice va vn vc, .slice ea en ec, .slice la ln lc] 25)
  have hcs := boxd w n (.slice va vn vc) (.slice ea en ec) (.slice la ln lc) 25
  obtain ⟨A, hA⟩ : ∃ A, w.heap.size = A := ⟨_, rfl⟩
  rw [hw1] at hb1 hcs
  rw [hA] at hcs
  replace hw1 := hid hw1
  replace hA := hid hA
  replace hb1 := hid hb1
  have hnh := hid hn
  have hm1 := hid (fun (y : World) (hy : Below w1.heap.size w1 y) => hmh.out.below (hb1.out.trans (hy.mono hb1.out.size)))
  clear hm hV hE hL e1 e2 l1 l2 hn
  go_enter Tryz.func29, Tryz.ntmps29
  go_upto_region 1 with fail
  rw [hw1.out, hA.out]
  obtain ⟨c0, c1, c2, c3⟩ := hcs.out w1 (Below.refl _ _)
  have hq1 := hid (arload_any (n := n) (hm1.out w1 (Below.refl _ _)).vs)
  go_wp2_with fail
  refine hq1.out.mono ?_
  rintro e w2 ⟨b2, k1, ad1, len1, cap1, z1, rfl, hr1⟩
  have b23 := balloc w2 (.cells #[.int .i64 k1, .slice ad1 len1 cap1] 123)
  have b3 := hid (b2.trans (b23.mono b2.size))
  replace hr1 := hid hr1
  clear c0 c1 c2 c3 b2 b23 hq1
  go_upto_region 2 with fail
  obtain ⟨w3, hw3⟩ : ∃ w3, w2.alloc (.cells #[.int .i64 k1, .slice ad1 len1 cap1] 123) = w3 := ⟨_, rfl⟩
  rw [hw3] at b3 ⊢
  clear hw3
  obtain ⟨c0, c1, c2, c3⟩ := hcs.out w3 b3.out
  have hq1 := hid (arload_any (n := n) (hm1.out w3 b3.out).es)
  go_wp2_with fail
  refine hq1.out.mono ?_
  rintro e w4 ⟨b4, k2, ad2, len2, cap2, z2, rfl, hr2⟩
  have b45 := balloc w4 (.cells #[.int .i64 k2, .slice ad2 len2 cap2] 123)
  have b5 := hid (b3.out.trans ((b4.trans (b45.mono b4.size)).mono b3.out.size))
  replace hr2 := hid hr2
  clear c0 c1 c2 c3 b4 b45 hq1 b3
  go_upto_region 3 with fail
  obtain ⟨w5, hw5⟩ : ∃ w5, w4.alloc (.cells #[.int .i64 k2, .slice ad2 len2 cap2] 123) = w5 := ⟨_, rfl⟩
  rw [hw5] at b5 ⊢
  clear hw5
  have hend := hid (fun (y : World) (hy : Below w5.heap.size w5 y) => hb1.out.trans ((b5.out.trans (hy.mono b5.out.size)).mono hb1.out.size))
  have hm5 := hid (fun (y : World) (hy : Below w5.heap.size w5 y) => hm1.out y (b5.out.trans (hy.mono b5.out.size)))
  have hc5 := hid (fun (y : World) (hy : Below w5.heap.size w5 y) => hcs.out y (b5.out.trans (hy.mono b5.out.size)))
  obtain ⟨c0, c1, c2, c3⟩ := hc5.out w5 (Below.refl _ _)
  rcases hr1.out with ⟨hf1, rfl⟩ | ⟨hf1, rfl⟩
  rotate_left
  · replace hf1 := hid hf1
    go_wp2_with fail
    go_ret
    exact ⟨hend.out _ (Below.refl _ _), by rw [bno hz.out (fun q => absurd (by rw [← hnh.out]; exact q.v) hf1.out)]; rfl⟩
  rcases hr2.out with ⟨hf2, rfl⟩ | ⟨hf2, rfl⟩
  rotate_left
  · replace hf2 := hid hf2
    clear hf1
    go_wp2_with fail
    go_ret
    exact ⟨hend.out _ (Below.refl _ _), by rw [bno hz.out (fun q => absurd (by rw [← hnh.out]; exact q.e) hf2.out)]; rfl⟩
  rw [← hnh.out] at hf1 hf2
  replace hf1 := hid hf1
  replace hf2 := hid hf2
  clear hr1 hr2 b5 hb1 hw1 hA hcs hm1 hmh
  by_cases hlen : ln = en
  rotate_left
  · have t1 : ((ln : Int) != (en : Int)) = true := by simp; omega
    have hno : Hid (¬ Fit m) := fun q => hlen (by rw [← hln.out, ← hen.out]; exact q.len)
    clear hlen
    go_wp2_with fail
    go_ret
    exact ⟨hend.out _ (Below.refl _ _), by rw [bno hz.out (fun q => absurd q hno.out)]; rfl⟩
  have t1 : ((ln : Int) != (en : Int)) = false := by simp [hlen]
  have hlen' := hid hlen
  have hle : ln ≤ en := by omega
  clear hlen
  go_wp2_with fail
  go_loopw [7] (fun s7 wr => ∃ e : Nat, e ≤ ln ∧ s7 = .int .i64 (e : Int) ∧ Hid (∀ j, j < e → ¬ Lv m.es j → m.eg j = ez) ∧ Hid (Below w5.heap.size w5 wr)) (fun s7 _ => ln - (intOf s7).toNat)
  case atStart => exact ⟨0, by omega, by go_num, fun j hj => by omega, Below.refl _ _⟩
  case round =>
    obtain ⟨e, he, rfl, hst, hbr⟩ := hrel
    clear c0 c1 c2 c3
    obtain ⟨c0, c1, c2, c3⟩ := hc5.out wr hbr.out
    rcases Nat.lt_or_ge e ln with hlt | hge
    · obtain ⟨x, hx⟩ : ∃ x, m.l[e]? = some x := ⟨_, List.getElem?_eq_getElem (by rw [hln.out]; exact hlt)⟩
      obtain ⟨p, hp⟩ : ∃ p, m.es[e]? = some p := ⟨_, List.getElem?_eq_getElem (by rw [hen.out]; omega)⟩
      obtain ⟨_, _, _, e9, hE, _⟩ := (hm5.out wr hbr.out).es
      simp only [Value.slice.injEq] at e9
      obtain ⟨rfl, rfl, rfl⟩ := e9
      obtain ⟨eb, eo, rfl, _, p1⟩ := hE.cell e p hp
      obtain ⟨_, _, _, e9, hL, _⟩ := (hm5.out wr hbr.out).l
      simp only [Value.slice.injEq] at e9
      obtain ⟨rfl, rfl, rfl⟩ := e9
      obtain ⟨lb, lo, rfl, x0, x1, x2, x3, x4⟩ := hL.cell e x hx
      have j1 : (0 : Int) ≤ (e : Int) := by omega
      have j2 : (e : Int) < (ln : Int) := by omega
      have j3 : (e : Int) < (en : Int) := by omega
      have hlv : Hid (p.2 = 1 ↔ Lv m.es e) := by
        show _ ↔ _
        unfold Lv
        rw [hp]; exact Iff.rfl
      have hxe : Hid (m.eg e = x) := Mo.eg_at hx
      clear hp hx hE hL
      by_cases hp1 : p.2 = 1
      · have t3 : (p.2 != 1) = false := by simp [hp1]
        have hnx : Hid (∀ j, j < e + 1 → ¬ Lv m.es j → m.eg j = ez) := fun j hj hn => by
          rcases Nat.lt_or_ge j e with q | q
          · exact hst.out j q hn
          · obtain rfl : j = e := by omega
            exact absurd (hlv.out.1 hp1) hn
        clear hp1
        go_wp2_with fail
        go_roundw
        case rel => exact ⟨e + 1, by omega, by go_num, hnx, hbr⟩
        case measure => simp [intOf]; omega
      · have t3 : (p.2 != 1) = true := by simp [hp1]
        have hno : Hid (¬ Lv m.es e) := fun q => hp1 (hlv.out.2 q)
        clear hp1
        by_cases hxz : x = ez
        · have he1 : ∀ y, (Op.equalIn 10000 61 (.agg #[.int .u32 (x.f0 : Int), .int .u32 (x.f1 : Int), .int .u32 (x.n0 : Int), .int .u32 (x.n1 : Int), .int .i32 x.w]) (.agg #[.int .u32 0, .int .u32 0, .int .u32 0, .int .u32 0, .int .i32 0])).run Tryz.prog y = .ok true y := fun y => reg_eq x ez true (by simp [hxz]) y
          have hnx : Hid (∀ j, j < e + 1 → ¬ Lv m.es j → m.eg j = ez) := fun j hj hn => by
            rcases Nat.lt_or_ge j e with q | q
            · exact hst.out j q hn
            · obtain rfl : j = e := by omega
              exact hxe.out.trans hxz
          clear hxz
          go_wp2_with fail
          go_roundw
          case rel => exact ⟨e + 1, by omega, by go_num, hnx, hbr⟩
          case measure => simp [intOf]; omega
        · have he1 : ∀ y, (Op.equalIn 10000 61 (.agg #[.int .u32 (x.f0 : Int), .int .u32 (x.f1 : Int), .int .u32 (x.n0 : Int), .int .u32 (x.n1 : Int), .int .i32 x.w]) (.agg #[.int .u32 0, .int .u32 0, .int .u32 0, .int .u32 0, .int .i32 0])).run Tryz.prog y = .ok false y := fun y => reg_eq x ez false (by simp [hxz]) y
          have hxz' := hid hxz
          clear hxz
          go_wp2_with fail
          go_ret
          exact ⟨hend.out _ hbr.out, by rw [bno hz.out (fun q => absurd (hxe.out.symm.trans (q.z e (by rw [hln.out]; exact hlt) hno.out)) hxz'.out)]; rfl⟩
    · obtain rfl : e = ln := by omega
      have hzz : Hid (∀ j, j < m.l.length → ¬ Lv m.es j → m.eg j = ez) := by rw [hln.out]; exact hst
      have hdq := hid (rdarts17_ok (n := n) (hm5.out wr hbr.out) (by rw [hen.out]; omega))
      obtain ⟨K, hK⟩ : ∃ K, 2 * e = K := ⟨_, rfl⟩
      have hkk : Hid (m.k = K) := by show 2 * m.l.length = K; rw [hln.out]; exact hK
      have hKb : K ≤ 800 := by omega
      have hwK : Hid (wrap64 (2 * (e : Int)) = (K : Int)) := by rw [IntWalk.wrap64_in _ ⟨by omega, by omega⟩]; show 2 * (e : Int) = (K : Int); omega
      have hwK2 : Hid (2 * (e : Int) = (K : Int)) := by show 2 * (e : Int) = (K : Int); omega
      have hKe : Hid (K = 2 * e ∧ e = en) := ⟨hK.symm, hlen'.out⟩
      clear hst hK
      go_wp2_with fail
      refine hdq.out.mono ?_
      rintro e6 w6 ⟨u, rfl, hu, b6⟩
      obtain ⟨da, dc, rfl, _, _⟩ := own_any hu
      have hnl := hid hu.nl
      obtain ⟨D, hD⟩ : ∃ D, (dtl m).length = D := ⟨_, rfl⟩
      have hD80 : D ≤ 800 := by
        have := dts_le m m.es.length
        rw [← hD]
        show (dts m m.es.length).length ≤ 800
        rw [hen.out] at this ⊢
        omega
      rw [hD] at hnl ⊢
      have hb6 := hid (hbr.out.trans (b6.mono hbr.out.size))
      clear c0 c1 c2 c3 hu b6 hdq
      obtain ⟨c0, c1, c2, c3⟩ := hc5.out w6 hb6.out
      go_upto_region 12 with (at_make; first | rw [hwK.out] | rw [hwK2.out]; refine wpList_make_full _ rfl (.tmp 71) (.tmp 71) 55 rfl w6.heap.size 3 i0 (.int .i64 0) 1 Tryz.underlying55 hif hz0 hz1 .i64 .i64 _ _ K rfl rfl rfl rfl (by rw [hz2]; omega) (by unfold maxLen; omega) (Nat.le_refl _) ?_; intro w7 hown hgrow)
      have hct7 : Hid (Ct w6.heap.size w6 w7 (.slice (some ⟨w6.heap.size, 0, none⟩) K K) K (((dtl m).take 0).map m.nd)) := by
        rw [cts_made] at hown
        exact ⟨hown, (Below.refl w6.heap.size w6).grown hgrow (Nat.le_refl _) (by simp), Nat.le_refl _⟩
      have hDh := hid hD
      obtain ⟨B6, hB6⟩ : ∃ B6, w6.heap.size = B6 := ⟨_, rfl⟩
      rw [hB6] at hct7 ⊢
      replace hB6 := hid hB6
      clear hown hgrow c0 c1 c2 c3 hD
      go_wp2_with fail
      go_loopw [10, 11] (fun s10 _ wr => ∃ i : Nat, i ≤ D ∧ s10 = .int .i64 (i : Int) ∧ Hid ((∀ d, d ∈ (dtl m).take i → DOk m d) ∧ (((dtl m).take i).map m.nd).Nodup) ∧ Hid (Ct B6 w6 wr (.slice (some ⟨B6, 0, none⟩) K K) K (((dtl m).take i).map m.nd))) (fun s10 _ _ => D - (intOf s10).toNat)
      case atStart => exact ⟨0, by omega, by go_num, ⟨fun d hd => by simp at hd, by simp⟩, hct7⟩
      case round =>
        obtain ⟨i, hi, rfl, hso, hct⟩ := hrel
        clear hct7
        have hw6 := hid (hct.out.bel)
        rw [← hB6.out] at hw6
        have hbw := hid (hb6.out.trans (hw6.out.mono hb6.out.size))
        rcases Nat.lt_or_ge i D with hil | hig
        · obtain ⟨d, hd⟩ : ∃ d, (dtl m)[i]? = some d := ⟨_, List.getElem?_eq_getElem (by rw [hDh.out]; exact hil)⟩
          have hlv := mem_dtl.1 (List.mem_of_getElem? hd)
          obtain ⟨_, _, _, e9, _, _, _, hcell⟩ := hnl.out
          simp only [Value.slice.injEq] at e9
          obtain ⟨rfl, rfl, rfl⟩ := e9
          obtain ⟨db, dof, rfl, cd⟩ := hcell i d hd
          have hcd := hid (fun (y : World) (hy : Below w6.heap.size w6 y) => (hy.cell (World.block_lt_of_cell? _ _ cd)).trans cd)
          have hEl := hlv.lt
          have hdk : d < m.k := by have := hKe.out; rw [hen.out] at hEl; rw [hkk.out]; omega
          obtain ⟨lb, lo, lcap, e5, l1, l2, _, q6, l3, l4⟩ := (hm5.out wr hbw.out).l.dart hdk
          simp only [Value.slice.injEq] at e5
          obtain ⟨rfl, hee, rfl⟩ := e5
          rw [← hee] at l1
          obtain ⟨f1, f2⟩ := half_int d
          have hdl : d / 2 < e := by have := hKe.out; rw [hen.out] at hEl; omega
          have hds : d % 2 < 2 := by omega
          obtain ⟨E, hE⟩ : ∃ E, d / 2 = E := ⟨_, rfl⟩
          obtain ⟨S, hS⟩ : ∃ S, d % 2 = S := ⟨_, rfl⟩
          obtain ⟨G, hG⟩ : ∃ G, m.nd d = G := ⟨_, rfl⟩
          obtain ⟨F, hF⟩ : ∃ F, m.fr d = F := ⟨_, rfl⟩
          obtain ⟨G2, hG2⟩ : ∃ G2, G / 2 = G2 := ⟨_, rfl⟩
          rw [hG] at q6 l4
          rw [hF] at l3
          rw [hE] at f1 q6 hdl
          rw [hS] at f2 q6 hds
          have q5 := hcd.out wr hw6.out
          obtain ⟨c0, c1, c2, c3⟩ := hc5.out wr hbw.out
          have hdok : Hid (DOk m d ↔ Lv m.vs F ∧ Lv m.es G2 ∧ m.fr G = F) := by
            show _ ↔ _
            unfold DOk
            rw [hF, hG, hG2]
          have hfr1' := hid (fun (y : World) (hy : Below w5.heap.size w5 y) => (rfrom_ok (n := n) (vv := .slice va vn vc) (ev := .slice ea en ec) (hm5.out y hy).l d hdk))
          rw [hF] at hfr1'
          have hfr2' := hid (fun (y : World) (hy : Below w5.heap.size w5 y) (hk : G < m.k) => (rfrom_ok (n := n) (vv := .slice va vn vc) (ev := .slice ea en ec) (hm5.out y hy).l G hk))
          have hlv1' := hid (fun (y : World) (hy : Below w5.heap.size w5 y) (z : Bool) (hz : z = true ↔ Lv m.vs F) => rlive_ok (hm5.out y hy).vs F l3 z hz)
          have hlv2' := hid (fun (y : World) (hy : Below w5.heap.size w5 y) (z : Bool) (hz : z = true ↔ Lv m.es G2) => rlive_ok (hm5.out y hy).es G2 (by omega) z hz)
          have hgk : Hid (Lv m.es G2 → G < m.k) := fun q => by
            have h1 := q.lt
            have := hKe.out
            rw [hen.out] at h1
            rw [hkk.out]
            omega
          have hlvh := hid hlv
          have hdh := hid hd
          have hgG : Hid (m.nd d = G) := hG
          have i1 : (0 : Int) ≤ (i : Int) := by omega
          have i2 : (i : Int) < (D : Int) := by omega
          have i3 : (0 : Int) ≤ (E : Int) := by omega
          have i4 : (E : Int) < (e : Int) := by omega
          have i5 : (0 : Int) ≤ (S : Int) := by omega
          have i6 : (S : Int) < 2 := by omega
          have hkeep : Hid (e ≤ 400 ∧ K ≤ 800 ∧ D ≤ 800 ∧ i < D) := ⟨hll, hKb, hD80, hil⟩
          have hE80 : E < 1000 := by omega
          obtain ⟨w1', w1''⟩ := wraps17 E hE80
          clear hE80
          have l34 : Hid (F < 4294967296 ∧ G < 4294967296) := ⟨l3, l4⟩
          obtain ⟨w2', w2''⟩ := wraps17 S (by omega)
          clear hd hlv hcell cd hEl hdk l1 l2 hdl hds hE hS hF hG hee l3 l4 hKb hD80 hil hi hge he
          go_upto_region 15 with fail
          go_quiet (fail)
          go_upto_region 16 with fail
          generalize hwz : wr.drewN _ = wz
          have hrz := hid (show Below wr.heap.size wr wz by rw [← hwz]; exact belowN (Below.refl _ _) _)
          clear hwz q5 q6 c0 c1 c2 c3 f1 f2 i3 i4 i5 i6 w1' w1'' w2' w2''
          obtain ⟨l3, l4⟩ := l34.out
          have hbz := hid (hbw.out.trans (hrz.out.mono hbw.out.size))
          have hS := hid (fun (y : World) (hy : Below wz.heap.size wz y) => (show y.cell? ⟨A, 0, none⟩ = some (.int .i64 n) ∧ y.cell? ⟨A, 1, none⟩ = some (.slice va vn vc) ∧ y.cell? ⟨A, 2, none⟩ = some (.slice ea en ec) ∧ y.cell? ⟨A, 3, none⟩ = some (.slice (some ⟨lb, lo, none⟩) e lc) ∧ y.cell? ⟨db, dof + i, none⟩ = some (.int .i64 (d : Int)) by
            obtain ⟨a0, a1, a2, a3⟩ := hc5.out y (hbz.out.trans (hy.mono hbz.out.size))
            exact ⟨a0, a1, a2, a3, hcd.out y ((hw6.out.trans (hrz.out.mono hw6.out.size)).trans (hy.mono (hw6.out.trans (hrz.out.mono hw6.out.size)).size))⟩))
          have hfr1 := hid (fun (y : World) (hy : Below wz.heap.size wz y) => hfr1'.out y (hbz.out.trans (hy.mono hbz.out.size)))
          have hfr2 := hid (fun (y : World) (hy : Below wz.heap.size wz y) => hfr2'.out y (hbz.out.trans (hy.mono hbz.out.size)))
          have hlv1 := hid (fun (y : World) (hy : Below wz.heap.size wz y) => hlv1'.out y (hbz.out.trans (hy.mono hbz.out.size)))
          have hlv2 := hid (fun (y : World) (hy : Below wz.heap.size wz y) => hlv2'.out y (hbz.out.trans (hy.mono hbz.out.size)))
          have g1 : IntKind.u32.wrap (F : Int) = (F : Int) := wu32 F l3
          obtain ⟨g2, g3, g4, g5⟩ := half17 G G2 l4 hG2
          clear hfr1' hfr2' hlv1' hlv2' hG2
          refine wp_region_noPanic ?_
          refine wp_region_held_drew (S := fun w' => w'.cell? ⟨A, 0, none⟩ = some (.int .i64 n) ∧ w'.cell? ⟨A, 1, none⟩ = some (.slice va vn vc) ∧ w'.cell? ⟨A, 2, none⟩ = some (.slice ea en ec) ∧ w'.cell? ⟨A, 3, none⟩ = some (.slice (some ⟨lb, lo, none⟩) e lc) ∧ w'.cell? ⟨db, dof + i, none⟩ = some (.int .i64 (d : Int))) (by kernel_rfl) (hS.out _ (Below.refl wz.heap.size wz).drew) (fun hHeld => ?_)
          generalize hx0 : wz.drew = x0 at hHeld ⊢
          have bx0 : Below wz.heap.size wz x0 := by rw [← hx0]; exact (Below.refl _ _).drew
          clear hx0
          refine takeH (i := 0) (v := ?_) (a' := ?_) ({ dst := some 95, op := Op.fieldAddr 25 (Operand.tmp 1) 1, type := 0, pos := "ref.go:63", after := #[], guard := none }) rfl (by kernel_rfl) (by kernel_rfl) (by kernel_rfl) (fun _ _ _ h => h) (by rfl) ?_ hHeld ?_ ?_
          rotate_left 2
          · (intro w' hSw; obtain ⟨q0, q1, q2, q3, q4⟩ := hSw; go_simp; try with_reducible rfl)
          · (simp only [Act.put, List.setIfInBounds_toArray, List.set_cons_zero, List.set_cons_succ]; try rfl)
          refine takeH (i := 1) (v := ?_) (a' := ?_) ({ dst := some 96, op := Op.load 22 (Operand.tmp 95), type := 22, pos := "ref.go:63", after := #[{ on := 0, ground := Ground.data }], guard := none }) rfl (by kernel_rfl) (by kernel_rfl) (by kernel_rfl) (fun _ _ _ h => h) (by rfl) ?_ hHeld ?_ ?_
          rotate_left 2
          · (intro w' hSw; obtain ⟨q0, q1, q2, q3, q4⟩ := hSw; go_simp; try with_reducible rfl)
          · (simp only [Act.put, List.setIfInBounds_toArray, List.set_cons_zero, List.set_cons_succ]; try rfl)
          refine takeH (i := 2) (v := ?_) (a' := ?_) ({ dst := some 97, op := Op.load 25 (Operand.tmp 1), type := 25, pos := "ref.go:63", after := #[], guard := none }) rfl (by kernel_rfl) (by kernel_rfl) (by kernel_rfl) (fun _ _ _ h => h) (by rfl) ?_ hHeld ?_ ?_
          rotate_left 2
          · (intro w' hSw; obtain ⟨q0, q1, q2, q3, q4⟩ := hSw; go_simp; try with_reducible rfl)
          · (simp only [Act.put, List.setIfInBounds_toArray, List.set_cons_zero, List.set_cons_succ]; try rfl)
          refine takeH (i := 3) (v := ?_) (a' := ?_) ({ dst := some 98, op := Op.move (Operand.tmp 8), type := 55, pos := "ref.go:63", after := #[], guard := none }) rfl (by kernel_rfl) (by kernel_rfl) (by kernel_rfl) (fun _ _ _ h => h) (by rfl) ?_ hHeld ?_ ?_
          rotate_left 2
          · (intro w' hSw; obtain ⟨q0, q1, q2, q3, q4⟩ := hSw; go_simp; try with_reducible rfl)
          · (simp only [Act.put, List.setIfInBounds_toArray, List.set_cons_zero, List.set_cons_succ]; try rfl)
          refine takeH (i := 4) (v := ?_) (a' := ?_) ({ dst := some 99, op := Op.move (Operand.tmp 10), type := 3, pos := "ref.go:63", after := #[], guard := none }) rfl (by kernel_rfl) (by kernel_rfl) (by kernel_rfl) (fun _ _ _ h => h) (by rfl) ?_ hHeld ?_ ?_
          rotate_left 2
          · (intro w' hSw; obtain ⟨q0, q1, q2, q3, q4⟩ := hSw; go_simp; try with_reducible rfl)
          · (simp only [Act.put, List.setIfInBounds_toArray, List.set_cons_zero, List.set_cons_succ]; try rfl)
          refine takeH (i := 5) (v := ?_) (a' := ?_) ({ dst := some 100, op := Op.indexAddr 55 (Operand.tmp 98) (Operand.tmp 99), type := 0, pos := "ref.go:63", after := #[{ on := 3, ground := Ground.data }, { on := 4, ground := Ground.data }], guard := none }) rfl (by kernel_rfl) (by kernel_rfl) (by kernel_rfl) (fun _ _ _ h => h) (by rfl) ?_ hHeld ?_ ?_
          rotate_left 2
          · (intro w' hSw; obtain ⟨q0, q1, q2, q3, q4⟩ := hSw; go_simp; try with_reducible rfl)
          · (simp only [Act.put, List.setIfInBounds_toArray, List.set_cons_zero, List.set_cons_succ]; try rfl)
          refine takeH (i := 6) (v := ?_) (a' := ?_) ({ dst := some 101, op := Op.load 3 (Operand.tmp 100), type := 3, pos := "ref.go:63", after := #[{ on := 5, ground := Ground.data }], guard := none }) rfl (by kernel_rfl) (by kernel_rfl) (by kernel_rfl) (fun _ _ _ h => h) (by rfl) ?_ hHeld ?_ ?_
          rotate_left 2
          · (intro w' hSw; obtain ⟨q0, q1, q2, q3, q4⟩ := hSw; go_simp; try with_reducible rfl)
          · (simp only [Act.put, List.setIfInBounds_toArray, List.set_cons_zero, List.set_cons_succ]; try rfl)
          refine wpAnyH_ready (rs := [7]) (by kernel_rfl) (by simp) ?_
          refine AllReadyH.cons (o := { dst := some 102, op := Op.call { callee := Callee.value (Operand.func 30), args := #[Operand.tmp 97, Operand.tmp 101], argTypes := #[25, 3] }, type := 3, pos := "ref.go:63", after := #[{ on := 2, ground := Ground.data }, { on := 6, ground := Ground.data }], guard := none }) rfl (fun K hK => ?_) AllReadyH.nil
          go_simp
          refine (hfr1.out x0 bx0).mono ?_
          rintro e x1 ⟨rfl, b01⟩
          have bx1 := bx0.trans (b01.mono bx0.size)
          go_wp2_with fail
          refine hK.out _ _ (hS.out _ bx1) (fun hHeld => ?_)
          clear hK K
          try simp only [Act.put, List.setIfInBounds_toArray, List.set_cons_zero, List.set_cons_succ]
          refine takeH (i := 8) (v := ?_) (a' := ?_) ({ dst := some 103, op := Op.convert 3 56 (Operand.tmp 102), type := 56, pos := "ref.go:63", after := #[{ on := 7, ground := Ground.data }], guard := none }) rfl (by kernel_rfl) (by kernel_rfl) (by kernel_rfl) (fun _ _ _ h => h) (by rfl) ?_ hHeld ?_ ?_
          rotate_left 2
          · (intro w' hSw; obtain ⟨q0, q1, q2, q3, q4⟩ := hSw; go_simp; try with_reducible rfl)
          · (simp only [Act.put, List.setIfInBounds_toArray, List.set_cons_zero, List.set_cons_succ]; try rfl)
          by_cases hv : Lv m.vs F
          · have hz := hid (hlv1.out x1 bx1 true (by simp [hv]))
            refine wpAnyH_ready (rs := [9]) (by kernel_rfl) (by simp) ?_
            refine AllReadyH.cons (o := { dst := some 104, op := Op.call { callee := Callee.value (Operand.func 59), args := #[Operand.tmp 96, Operand.tmp 103], argTypes := #[22, 56] }, type := 4, pos := "ref.go:63", after := #[{ on := 1, ground := Ground.data }, { on := 8, ground := Ground.data }, { on := 7, ground := Ground.chain }], guard := none }) rfl (fun K hK => ?_) AllReadyH.nil
            go_simp
            refine hz.out.mono ?_
            rintro e x2 ⟨rfl, rfl⟩
            go_wp2_with fail
            refine hK.out _ _ (hS.out _ bx1) (fun hHeld => ?_)
            clear hK K
            try simp only [Act.put, List.setIfInBounds_toArray, List.set_cons_zero, List.set_cons_succ]
            refine takeH (i := 10) (v := ?_) (a' := ?_) ({ dst := some 105, op := Op.unOp UnOp.not 4 (Operand.tmp 104), type := 4, pos := "ref.go:63", after := #[{ on := 9, ground := Ground.data }], guard := none }) rfl (by kernel_rfl) (by kernel_rfl) (by kernel_rfl) (fun _ _ _ h => h) (by rfl) ?_ hHeld ?_ ?_
            rotate_left 2
            · (intro w' hSw; obtain ⟨q0, q1, q2, q3, q4⟩ := hSw; go_simp; try with_reducible rfl)
            · (simp only [Act.put, List.setIfInBounds_toArray, List.set_cons_zero, List.set_cons_succ]; try rfl)
            refine takeH (i := 11) (v := ?_) (a' := ?_) ({ dst := some 106, op := Op.move (Operand.tmp 105), type := 4, pos := "ref.go:63", after := #[{ on := 10, ground := Ground.data }, { on := 9, ground := Ground.chain }], guard := none }) rfl (by kernel_rfl) (by kernel_rfl) (by kernel_rfl) (fun _ _ _ h => h) (by rfl) ?_ hHeld ?_ ?_
            rotate_left 2
            · (intro w' hSw; obtain ⟨q0, q1, q2, q3, q4⟩ := hSw; go_simp; try with_reducible rfl)
            · (simp only [Act.put, List.setIfInBounds_toArray, List.set_cons_zero, List.set_cons_succ]; try rfl)
            refine takeH (i := 12) (v := ?_) (a' := ?_) ({ dst := some 107, op := Op.fieldAddr 25 (Operand.tmp 1) 2, type := 0, pos := "ref.go:63", after := #[{ on := 11, ground := Ground.guard }], guard := some (11, false) }) rfl (by kernel_rfl) (by kernel_rfl) (by kernel_rfl) (fun _ _ _ h => h) (by rfl) ?_ hHeld ?_ ?_
            rotate_left 2
            · (intro w' hSw; obtain ⟨q0, q1, q2, q3, q4⟩ := hSw; go_simp; try with_reducible rfl)
            · (simp only [Act.put, List.setIfInBounds_toArray, List.set_cons_zero, List.set_cons_succ]; try rfl)
            refine takeH (i := 13) (v := ?_) (a' := ?_) ({ dst := some 108, op := Op.load 22 (Operand.tmp 107), type := 22, pos := "ref.go:63", after := #[{ on := 12, ground := Ground.data }, { on := 11, ground := Ground.guard }], guard := some (11, false) }) rfl (by kernel_rfl) (by kernel_rfl) (by kernel_rfl) (fun _ _ _ h => h) (by rfl) ?_ hHeld ?_ ?_
            rotate_left 2
            · (intro w' hSw; obtain ⟨q0, q1, q2, q3, q4⟩ := hSw; go_simp; try with_reducible rfl)
            · (simp only [Act.put, List.setIfInBounds_toArray, List.set_cons_zero, List.set_cons_succ]; try rfl)
            refine takeH (i := 14) (v := ?_) (a' := ?_) ({ dst := some 109, op := Op.move (Operand.tmp 11), type := 56, pos := "ref.go:63", after := #[{ on := 11, ground := Ground.guard }], guard := some (11, false) }) rfl (by kernel_rfl) (by kernel_rfl) (by kernel_rfl) (fun _ _ _ h => h) (by rfl) ?_ hHeld ?_ ?_
            rotate_left 2
            · (intro w' hSw; obtain ⟨q0, q1, q2, q3, q4⟩ := hSw; go_simp; try with_reducible rfl)
            · (simp only [Act.put, List.setIfInBounds_toArray, List.set_cons_zero, List.set_cons_succ]; try rfl)
            refine takeH (i := 15) (v := ?_) (a' := ?_) ({ dst := some 110, op := Op.binOp BinOp.quo 56 (Operand.tmp 109) (Operand.const (Value.int IntKind.u32 2)) 56, type := 56, pos := "ref.go:63", after := #[{ on := 14, ground := Ground.data }, { on := 11, ground := Ground.guard }], guard := some (11, false) }) rfl (by kernel_rfl) (by kernel_rfl) (by kernel_rfl) (fun _ _ _ h => h) (by rfl) ?_ hHeld ?_ ?_
            rotate_left 2
            · (intro w' hSw; obtain ⟨q0, q1, q2, q3, q4⟩ := hSw; go_simp; try with_reducible rfl)
            · (simp only [Act.put, List.setIfInBounds_toArray, List.set_cons_zero, List.set_cons_succ]; try rfl)
            by_cases he : Lv m.es G2
            · have hz2 := hid (hlv2.out x1 bx1 true (by simp [he]))
              refine wpAnyH_ready (rs := [16]) (by kernel_rfl) (by simp) ?_
              refine AllReadyH.cons (o := { dst := some 111, op := Op.call { callee := Callee.value (Operand.func 59), args := #[Operand.tmp 108, Operand.tmp 110], argTypes := #[22, 56] }, type := 4, pos := "ref.go:63", after := #[{ on := 13, ground := Ground.data }, { on := 15, ground := Ground.data }, { on := 11, ground := Ground.chain }, { on := 11, ground := Ground.guard }], guard := some (11, false) }) rfl (fun K hK => ?_) AllReadyH.nil
              go_simp
              refine hz2.out.mono ?_
              rintro e x2 ⟨rfl, rfl⟩
              go_wp2_with fail
              refine hK.out _ _ (hS.out _ bx1) (fun hHeld => ?_)
              clear hK K
              try simp only [Act.put, List.setIfInBounds_toArray, List.set_cons_zero, List.set_cons_succ]
              refine takeH (i := 17) (v := ?_) (a' := ?_) ({ dst := some 112, op := Op.unOp UnOp.not 4 (Operand.tmp 111), type := 4, pos := "ref.go:63", after := #[{ on := 16, ground := Ground.data }, { on := 11, ground := Ground.guard }], guard := some (11, false) }) rfl (by kernel_rfl) (by kernel_rfl) (by kernel_rfl) (fun _ _ _ h => h) (by rfl) ?_ hHeld ?_ ?_
              rotate_left 2
              · (intro w' hSw; obtain ⟨q0, q1, q2, q3, q4⟩ := hSw; go_simp; try with_reducible rfl)
              · (simp only [Act.put, List.setIfInBounds_toArray, List.set_cons_zero, List.set_cons_succ]; try rfl)
              refine takeH (i := 18) (v := ?_) (a' := ?_) ({ dst := some 113, op := Op.pick (Operand.tmp 106) (Operand.const (Value.bool true)) (Operand.tmp 112), type := 4, pos := "ref.go:63", after := #[{ on := 11, ground := Ground.data }, { on := 17, ground := Ground.data }], guard := none }) rfl (by kernel_rfl) (by kernel_rfl) (by kernel_rfl) (fun _ _ _ h => h) (by rfl) ?_ hHeld ?_ ?_
              rotate_left 2
              · (intro w' hSw; obtain ⟨q0, q1, q2, q3, q4⟩ := hSw; go_simp; try with_reducible rfl)
              · (simp only [Act.put, List.setIfInBounds_toArray, List.set_cons_zero, List.set_cons_succ]; try rfl)
              refine takeH (i := 19) (v := ?_) (a' := ?_) ({ dst := some 114, op := Op.move (Operand.tmp 113), type := 4, pos := "ref.go:63", after := #[{ on := 18, ground := Ground.data }, { on := 16, ground := Ground.chain }], guard := none }) rfl (by kernel_rfl) (by kernel_rfl) (by kernel_rfl) (fun _ _ _ h => h) (by rfl) ?_ hHeld ?_ ?_
              rotate_left 2
              · (intro w' hSw; obtain ⟨q0, q1, q2, q3, q4⟩ := hSw; go_simp; try with_reducible rfl)
              · (simp only [Act.put, List.setIfInBounds_toArray, List.set_cons_zero, List.set_cons_succ]; try rfl)
              refine takeH (i := 20) (v := ?_) (a' := ?_) ({ dst := some 115, op := Op.load 25 (Operand.tmp 1), type := 25, pos := "ref.go:63", after := #[{ on := 19, ground := Ground.guard }], guard := some (19, false) }) rfl (by kernel_rfl) (by kernel_rfl) (by kernel_rfl) (fun _ _ _ h => h) (by rfl) ?_ hHeld ?_ ?_
              rotate_left 2
              · (intro w' hSw; obtain ⟨q0, q1, q2, q3, q4⟩ := hSw; go_simp; try with_reducible rfl)
              · (simp only [Act.put, List.setIfInBounds_toArray, List.set_cons_zero, List.set_cons_succ]; try rfl)
              refine takeH (i := 21) (v := ?_) (a' := ?_) ({ dst := some 116, op := Op.move (Operand.tmp 11), type := 56, pos := "ref.go:63", after := #[{ on := 19, ground := Ground.guard }], guard := some (19, false) }) rfl (by kernel_rfl) (by kernel_rfl) (by kernel_rfl) (fun _ _ _ h => h) (by rfl) ?_ hHeld ?_ ?_
              rotate_left 2
              · (intro w' hSw; obtain ⟨q0, q1, q2, q3, q4⟩ := hSw; go_simp; try with_reducible rfl)
              · (simp only [Act.put, List.setIfInBounds_toArray, List.set_cons_zero, List.set_cons_succ]; try rfl)
              refine takeH (i := 22) (v := ?_) (a' := ?_) ({ dst := some 117, op := Op.convert 56 3 (Operand.tmp 116), type := 3, pos := "ref.go:63", after := #[{ on := 21, ground := Ground.data }, { on := 19, ground := Ground.guard }], guard := some (19, false) }) rfl (by kernel_rfl) (by kernel_rfl) (by kernel_rfl) (fun _ _ _ h => h) (by rfl) ?_ hHeld ?_ ?_
              rotate_left 2
              · (intro w' hSw; obtain ⟨q0, q1, q2, q3, q4⟩ := hSw; go_simp; try with_reducible rfl)
              · (simp only [Act.put, List.setIfInBounds_toArray, List.set_cons_zero, List.set_cons_succ]; try rfl)
              refine takeH (i := 24) (v := ?_) (a' := ?_) ({ dst := some 119, op := Op.load 25 (Operand.tmp 1), type := 25, pos := "ref.go:63", after := #[{ on := 19, ground := Ground.guard }], guard := some (19, false) }) rfl (by kernel_rfl) (by kernel_rfl) (by kernel_rfl) (fun _ _ _ h => h) (by rfl) ?_ hHeld ?_ ?_
              rotate_left 2
              · (intro w' hSw; obtain ⟨q0, q1, q2, q3, q4⟩ := hSw; go_simp; try with_reducible rfl)
              · (simp only [Act.put, List.setIfInBounds_toArray, List.set_cons_zero, List.set_cons_succ]; try rfl)
              refine takeH (i := 25) (v := ?_) (a' := ?_) ({ dst := some 120, op := Op.move (Operand.tmp 8), type := 55, pos := "ref.go:63", after := #[{ on := 19, ground := Ground.guard }], guard := some (19, false) }) rfl (by kernel_rfl) (by kernel_rfl) (by kernel_rfl) (fun _ _ _ h => h) (by rfl) ?_ hHeld ?_ ?_
              rotate_left 2
              · (intro w' hSw; obtain ⟨q0, q1, q2, q3, q4⟩ := hSw; go_simp; try with_reducible rfl)
              · (simp only [Act.put, List.setIfInBounds_toArray, List.set_cons_zero, List.set_cons_succ]; try rfl)
              refine takeH (i := 26) (v := ?_) (a' := ?_) ({ dst := some 121, op := Op.move (Operand.tmp 10), type := 3, pos := "ref.go:63", after := #[{ on := 19, ground := Ground.guard }], guard := some (19, false) }) rfl (by kernel_rfl) (by kernel_rfl) (by kernel_rfl) (fun _ _ _ h => h) (by rfl) ?_ hHeld ?_ ?_
              rotate_left 2
              · (intro w' hSw; obtain ⟨q0, q1, q2, q3, q4⟩ := hSw; go_simp; try with_reducible rfl)
              · (simp only [Act.put, List.setIfInBounds_toArray, List.set_cons_zero, List.set_cons_succ]; try rfl)
              refine takeH (i := 27) (v := ?_) (a' := ?_) ({ dst := some 122, op := Op.indexAddr 55 (Operand.tmp 120) (Operand.tmp 121), type := 0, pos := "ref.go:63", after := #[{ on := 25, ground := Ground.data }, { on := 26, ground := Ground.data }, { on := 19, ground := Ground.guard }], guard := some (19, false) }) rfl (by kernel_rfl) (by kernel_rfl) (by kernel_rfl) (fun _ _ _ h => h) (by rfl) ?_ hHeld ?_ ?_
              rotate_left 2
              · (intro w' hSw; obtain ⟨q0, q1, q2, q3, q4⟩ := hSw; go_simp; try with_reducible rfl)
              · (simp only [Act.put, List.setIfInBounds_toArray, List.set_cons_zero, List.set_cons_succ]; try rfl)
              refine takeH (i := 28) (v := ?_) (a' := ?_) ({ dst := some 123, op := Op.load 3 (Operand.tmp 122), type := 3, pos := "ref.go:63", after := #[{ on := 27, ground := Ground.data }, { on := 19, ground := Ground.guard }], guard := some (19, false) }) rfl (by kernel_rfl) (by kernel_rfl) (by kernel_rfl) (fun _ _ _ h => h) (by rfl) ?_ hHeld ?_ ?_
              rotate_left 2
              · (intro w' hSw; obtain ⟨q0, q1, q2, q3, q4⟩ := hSw; go_simp; try with_reducible rfl)
              · (simp only [Act.put, List.setIfInBounds_toArray, List.set_cons_zero, List.set_cons_succ]; try rfl)
              have hGk := hid (hgk.out he)
              refine wpAnyH_ready (rs := [23]) (by kernel_rfl) (by simp) ?_
              refine AllReadyH.cons (o := { dst := some 118, op := Op.call { callee := Callee.value (Operand.func 30), args := #[Operand.tmp 115, Operand.tmp 117], argTypes := #[25, 3] }, type := 3, pos := "ref.go:63", after := #[{ on := 20, ground := Ground.data }, { on := 22, ground := Ground.data }, { on := 19, ground := Ground.chain }, { on := 19, ground := Ground.guard }], guard := some (19, false) }) rfl (fun K hK => ?_) AllReadyH.nil
              go_simp
              refine (hfr2.out x1 bx1 hGk.out).mono ?_
              rintro e x2 ⟨rfl, b12⟩
              have bx2 := bx1.trans (b12.mono bx1.size)
              go_wp2_with fail
              refine hK.out _ _ (hS.out _ bx2) (fun hHeld => ?_)
              clear hK K
              try simp only [Act.put, List.setIfInBounds_toArray, List.set_cons_zero, List.set_cons_succ]
              refine wpAnyH_ready (rs := [29]) (by kernel_rfl) (by simp) ?_
              refine AllReadyH.cons (o := { dst := some 124, op := Op.call { callee := Callee.value (Operand.func 30), args := #[Operand.tmp 119, Operand.tmp 123], argTypes := #[25, 3] }, type := 3, pos := "ref.go:63", after := #[{ on := 24, ground := Ground.data }, { on := 28, ground := Ground.data }, { on := 23, ground := Ground.chain }, { on := 19, ground := Ground.guard }], guard := some (19, false) }) rfl (fun K hK => ?_) AllReadyH.nil
              go_simp
              refine (hfr1.out x2 bx2).mono ?_
              rintro e x3 ⟨rfl, b23⟩
              have bx3 := bx2.trans (b23.mono bx2.size)
              go_wp2_with fail
              refine hK.out _ _ (hS.out _ bx3) (fun hHeld => ?_)
              clear hK K
              try simp only [Act.put, List.setIfInBounds_toArray, List.set_cons_zero, List.set_cons_succ]
              obtain ⟨H, hH⟩ : ∃ H, m.fr G = H := ⟨_, rfl⟩
              rw [hH]
              by_cases hf : H = F
              · have t1 : ((H : Int) != (F : Int)) = false := by simp [hf]
                have hok := hid (hdok.out.2 ⟨hv, he, hH.trans hf⟩)
                clear hf
                refine takeH (i := 30) (v := ?_) (a' := ?_) ({ dst := some 125, op := Op.binOp BinOp.neq 3 (Operand.tmp 118) (Operand.tmp 124) 3, type := 4, pos := "ref.go:63", after := #[{ on := 23, ground := Ground.data }, { on := 29, ground := Ground.data }, { on := 19, ground := Ground.guard }], guard := some (19, false) }) rfl (by kernel_rfl) (by kernel_rfl) (by kernel_rfl) (fun _ _ _ h => h) (by rfl) ?_ hHeld ?_ ?_
                rotate_left 2
                · (intro w' hSw; obtain ⟨q0, q1, q2, q3, q4⟩ := hSw; go_simp; try with_reducible rfl)
                · (simp only [Act.put, List.setIfInBounds_toArray, List.set_cons_zero, List.set_cons_succ]; try rfl)
                refine takeH (i := 31) (v := ?_) (a' := ?_) ({ dst := some 126, op := Op.pick (Operand.tmp 114) (Operand.const (Value.bool true)) (Operand.tmp 125), type := 4, pos := "ref.go:63", after := #[{ on := 19, ground := Ground.data }, { on := 30, ground := Ground.data }], guard := none }) rfl (by kernel_rfl) (by kernel_rfl) (by kernel_rfl) (fun _ _ _ h => h) (by rfl) ?_ hHeld ?_ ?_
                rotate_left 2
                · (intro w' hSw; obtain ⟨q0, q1, q2, q3, q4⟩ := hSw; go_simp; try with_reducible rfl)
                · (simp only [Act.put, List.setIfInBounds_toArray, List.set_cons_zero, List.set_cons_succ]; try rfl)
                refine wpAnyH_done (by kernel_rfl) ?_ _
                refine NoPanic.normal ?_
                have hb3 := hid bx3
                clear bx0 bx1 bx2 bx3 b01 b12 b23 hHeld hz hz2 hfr1 hfr2 hlv1 hlv2 hS hH hv he
                have hb3w := hid (hrz.out.trans (hb3.out.mono hrz.out.size))
                have hct3 := hid (hct.out.more hb3w.out)
                have hGK : G < K := by rw [← hkk.out]; exact hGk.out
                obtain ⟨hk40, hk80, _, hil⟩ := hkeep.out
                obtain ⟨c, hc⟩ : ∃ c, cnt (((dtl m).take i).map m.nd) G = c := ⟨_, rfl⟩
                have hc1 : c ≤ 1 := by
                  rw [← hc]
                  exact List.nodup_iff_count.1 hso.out.2 G
                have hold : x3.cell? ⟨B6, G, none⟩ = some (.int .i64 (c : Int)) := by
                  rw [hct3.out.row.cellAt G (by omega), cts_get hGK, hc]
                obtain ⟨s1, s2⟩ := hct3.out.row.stored G (.int .i64 ((c : Int) + 1))
                have es := cts_set K (((dtl m).take i).map m.nd) G
                have hmp := map_step (f := m.nd) hdh.out
                rw [hgG.out] at hmp
                rw [hc, ← hmp, show ((c + 1 : Nat) : Int) = (c : Int) + 1 by omega] at es
                rw [es] at s1
                have hfz := hct3.out.row.frozenAt G
                have hnew := hid (Ct.mk s1 (below_row hct3.out.bel hct3.out.low hct3.out.row (Nat.le_refl _) s2) hct3.out.low)
                have hcnt : cnt (((dtl m).take (i + 1)).map m.nd) G = c + 1 := by
                  rw [hmp]
                  unfold cnt at hc ⊢
                  rw [List.count_append, hc]
                  simp
                have hcl : (x3.setCell ⟨B6, G, none⟩ (.int .i64 ((c : Int) + 1))).cell? ⟨B6, G, none⟩ = some (.int .i64 ((c : Int) + 1)) := by
                  have := hnew.out.row.cellAt G (by omega)
                  rw [cts_get hGK, hcnt, show ((c + 1 : Nat) : Int) = (c : Int) + 1 by omega] at this
                  exact this
                have j3 : (0 : Int) ≤ (G : Int) := by omega
                have j4 : (G : Int) < (K : Int) := by omega
                clear es s1 s2 hGK g1 g2 g3 g4 g5 l3 l4
                by_cases hcc : c = 0
                · have t3 : decide ((c : Int) + 1 > 1) = false := decide_eq_false (by omega)
                  have t3' : decide (1 < (c : Int) + 1) = false := decide_eq_false (by omega)
                  have hso2 : Hid ((∀ d, d ∈ (dtl m).take (i + 1) → DOk m d) ∧ (((dtl m).take (i + 1)).map m.nd).Nodup) := by
                    refine ⟨fun x hx => ?_, ?_⟩
                    · rw [ntake hdh.out] at hx
                      rcases List.mem_append.1 hx with q | q
                      · exact hso.out.1 x q
                      · simp at q; subst q; exact hok.out
                    · rw [hmp]
                      refine List.nodup_append.2 ⟨hso.out.2, by simp, fun a ha b hb e => ?_⟩
                      simp at hb
                      subst hb
                      subst e
                      exact List.count_eq_zero.1 (hc.trans hcc) ha
                  clear hc hc1 hct3 hmp hcnt hnl
                  obtain ⟨ci, hci⟩ : ∃ ci : Int, (c : Int) = ci := ⟨_, rfl⟩
                  rw [hci] at hold hcl hnew t3 t3'
                  have hb1' : (-9223372036854775808 : Int) ≤ ci + 1 := by omega
                  have hb2' : ci + 1 ≤ (9223372036854775807 : Int) := by omega
                  clear hci hcc
                  go_wp2_with fail
                  go_roundw
                  case rel => exact ⟨i + 1, by omega, by go_num, hso2, hnew⟩
                  case measure => simp [intOf]; omega
                · have t3 : decide ((c : Int) + 1 > 1) = true := decide_eq_true (by omega)
                  have t3' : decide (1 < (c : Int) + 1) = true := decide_eq_true (by omega)
                  have hno : Hid (¬ Fit m) := fun q => by
                    have h1 := List.Sublist.nodup ((List.take_sublist (i + 1) (dtl m)).map m.nd) (fit_nd q)
                    have h2 := List.nodup_iff_count.1 h1 G
                    unfold cnt at hcnt
                    omega
                  have hbf := hid (hb6.out.trans (hnew.out.bel.mono (by rw [← hB6.out]; exact hb6.out.size)))
                  obtain ⟨ci, hci⟩ : ∃ ci : Int, (c : Int) = ci := ⟨_, rfl⟩
                  rw [hci] at hold hcl hnew hbf t3 t3'
                  have hb1' : (-9223372036854775808 : Int) ≤ ci + 1 := by omega
                  have hb2' : ci + 1 ≤ (9223372036854775807 : Int) := by omega
                  clear hc hc1 hct3 hmp hcnt hnl hci hcc hnew
                  go_wp2_with fail
                  go_ret
                  exact ⟨hend.out _ hbf.out, by rw [bno hz.out (fun q => absurd q hno.out)]; rfl⟩
              · have t1 : ((H : Int) != (F : Int)) = true := by simp; omega
                have hbad : Hid (¬ DOk m d) := fun q => hf (hH.symm.trans (hdok.out.1 q).2.2)
                clear hf
                refine takeH (i := 30) (v := ?_) (a' := ?_) ({ dst := some 125, op := Op.binOp BinOp.neq 3 (Operand.tmp 118) (Operand.tmp 124) 3, type := 4, pos := "ref.go:63", after := #[{ on := 23, ground := Ground.data }, { on := 29, ground := Ground.data }, { on := 19, ground := Ground.guard }], guard := some (19, false) }) rfl (by kernel_rfl) (by kernel_rfl) (by kernel_rfl) (fun _ _ _ h => h) (by rfl) ?_ hHeld ?_ ?_
                rotate_left 2
                · (intro w' hSw; obtain ⟨q0, q1, q2, q3, q4⟩ := hSw; go_simp; try with_reducible rfl)
                · (simp only [Act.put, List.setIfInBounds_toArray, List.set_cons_zero, List.set_cons_succ]; try rfl)
                refine takeH (i := 31) (v := ?_) (a' := ?_) ({ dst := some 126, op := Op.pick (Operand.tmp 114) (Operand.const (Value.bool true)) (Operand.tmp 125), type := 4, pos := "ref.go:63", after := #[{ on := 19, ground := Ground.data }, { on := 30, ground := Ground.data }], guard := none }) rfl (by kernel_rfl) (by kernel_rfl) (by kernel_rfl) (fun _ _ _ h => h) (by rfl) ?_ hHeld ?_ ?_
                rotate_left 2
                · (intro w' hSw; obtain ⟨q0, q1, q2, q3, q4⟩ := hSw; go_simp; try with_reducible rfl)
                · (simp only [Act.put, List.setIfInBounds_toArray, List.set_cons_zero, List.set_cons_succ]; try rfl)
                refine wpAnyH_done (by kernel_rfl) ?_ _
                refine NoPanic.normal ?_
                have hb3 := hid bx3
                clear bx0 bx1 bx2 bx3 b01 b12 b23 hHeld hz hz2 hfr1 hfr2 hlv1 hlv2 hS hH hv he
                go_wp2_with fail
                go_ret
                exact ⟨hend.out _ (hbz.out.trans (hb3.out.mono hbz.out.size)), by rw [bno hz.out (fun q => absurd (q.d d hlvh.out) hbad.out)]; rfl⟩
            · have hz2 := hid (hlv2.out x1 bx1 false (by simp [he]))
              have hbad : Hid (¬ DOk m d) := fun q => he (hdok.out.1 q).2.1
              refine wpAnyH_ready (rs := [16]) (by kernel_rfl) (by simp) ?_
              refine AllReadyH.cons (o := { dst := some 111, op := Op.call { callee := Callee.value (Operand.func 59), args := #[Operand.tmp 108, Operand.tmp 110], argTypes := #[22, 56] }, type := 4, pos := "ref.go:63", after := #[{ on := 13, ground := Ground.data }, { on := 15, ground := Ground.data }, { on := 11, ground := Ground.chain }, { on := 11, ground := Ground.guard }], guard := some (11, false) }) rfl (fun K hK => ?_) AllReadyH.nil
              go_simp
              refine hz2.out.mono ?_
              rintro e x2 ⟨rfl, rfl⟩
              go_wp2_with fail
              refine hK.out _ _ (hS.out _ bx1) (fun hHeld => ?_)
              clear hK K
              try simp only [Act.put, List.setIfInBounds_toArray, List.set_cons_zero, List.set_cons_succ]
              refine takeH (i := 17) (v := ?_) (a' := ?_) ({ dst := some 112, op := Op.unOp UnOp.not 4 (Operand.tmp 111), type := 4, pos := "ref.go:63", after := #[{ on := 16, ground := Ground.data }, { on := 11, ground := Ground.guard }], guard := some (11, false) }) rfl (by kernel_rfl) (by kernel_rfl) (by kernel_rfl) (fun _ _ _ h => h) (by rfl) ?_ hHeld ?_ ?_
              rotate_left 2
              · (intro w' hSw; obtain ⟨q0, q1, q2, q3, q4⟩ := hSw; go_simp; try with_reducible rfl)
              · (simp only [Act.put, List.setIfInBounds_toArray, List.set_cons_zero, List.set_cons_succ]; try rfl)
              refine takeH (i := 18) (v := ?_) (a' := ?_) ({ dst := some 113, op := Op.pick (Operand.tmp 106) (Operand.const (Value.bool true)) (Operand.tmp 112), type := 4, pos := "ref.go:63", after := #[{ on := 11, ground := Ground.data }, { on := 17, ground := Ground.data }], guard := none }) rfl (by kernel_rfl) (by kernel_rfl) (by kernel_rfl) (fun _ _ _ h => h) (by rfl) ?_ hHeld ?_ ?_
              rotate_left 2
              · (intro w' hSw; obtain ⟨q0, q1, q2, q3, q4⟩ := hSw; go_simp; try with_reducible rfl)
              · (simp only [Act.put, List.setIfInBounds_toArray, List.set_cons_zero, List.set_cons_succ]; try rfl)
              refine takeH (i := 19) (v := ?_) (a' := ?_) ({ dst := some 114, op := Op.move (Operand.tmp 113), type := 4, pos := "ref.go:63", after := #[{ on := 18, ground := Ground.data }, { on := 16, ground := Ground.chain }], guard := none }) rfl (by kernel_rfl) (by kernel_rfl) (by kernel_rfl) (fun _ _ _ h => h) (by rfl) ?_ hHeld ?_ ?_
              rotate_left 2
              · (intro w' hSw; obtain ⟨q0, q1, q2, q3, q4⟩ := hSw; go_simp; try with_reducible rfl)
              · (simp only [Act.put, List.setIfInBounds_toArray, List.set_cons_zero, List.set_cons_succ]; try rfl)
              refine skipH (i := 20) (a' := ?_) ({ dst := some 115, op := Op.load 25 (Operand.tmp 1), type := 25, pos := "ref.go:63", after := #[{ on := 19, ground := Ground.guard }], guard := some (19, false) }) rfl (by kernel_rfl) (by kernel_rfl) (by kernel_rfl) (fun _ _ _ h => h) (by rfl) hHeld ?_ ?_
              rotate_left 1
              · (simp only [Act.put, List.setIfInBounds_toArray, List.set_cons_zero, List.set_cons_succ]; try rfl)
              refine skipH (i := 21) (a' := ?_) ({ dst := some 116, op := Op.move (Operand.tmp 11), type := 56, pos := "ref.go:63", after := #[{ on := 19, ground := Ground.guard }], guard := some (19, false) }) rfl (by kernel_rfl) (by kernel_rfl) (by kernel_rfl) (fun _ _ _ h => h) (by rfl) hHeld ?_ ?_
              rotate_left 1
              · (simp only [Act.put, List.setIfInBounds_toArray, List.set_cons_zero, List.set_cons_succ]; try rfl)
              refine skipH (i := 22) (a' := ?_) ({ dst := some 117, op := Op.convert 56 3 (Operand.tmp 116), type := 3, pos := "ref.go:63", after := #[{ on := 21, ground := Ground.data }, { on := 19, ground := Ground.guard }], guard := some (19, false) }) rfl (by kernel_rfl) (by kernel_rfl) (by kernel_rfl) (fun _ _ _ h => h) (by rfl) hHeld ?_ ?_
              rotate_left 1
              · (simp only [Act.put, List.setIfInBounds_toArray, List.set_cons_zero, List.set_cons_succ]; try rfl)
              refine skipH (i := 23) (a' := ?_) ({ dst := some 118, op := Op.call { callee := Callee.value (Operand.func 30), args := #[Operand.tmp 115, Operand.tmp 117], argTypes := #[25, 3] }, type := 3, pos := "ref.go:63", after := #[{ on := 20, ground := Ground.data }, { on := 22, ground := Ground.data }, { on := 19, ground := Ground.chain }, { on := 19, ground := Ground.guard }], guard := some (19, false) }) rfl (by kernel_rfl) (by kernel_rfl) (by kernel_rfl) (fun _ _ _ h => h) (by rfl) hHeld ?_ ?_
              rotate_left 1
              · (simp only [Act.put, List.setIfInBounds_toArray, List.set_cons_zero, List.set_cons_succ]; try rfl)
              refine skipH (i := 24) (a' := ?_) ({ dst := some 119, op := Op.load 25 (Operand.tmp 1), type := 25, pos := "ref.go:63", after := #[{ on := 19, ground := Ground.guard }], guard := some (19, false) }) rfl (by kernel_rfl) (by kernel_rfl) (by kernel_rfl) (fun _ _ _ h => h) (by rfl) hHeld ?_ ?_
              rotate_left 1
              · (simp only [Act.put, List.setIfInBounds_toArray, List.set_cons_zero, List.set_cons_succ]; try rfl)
              refine skipH (i := 25) (a' := ?_) ({ dst := some 120, op := Op.move (Operand.tmp 8), type := 55, pos := "ref.go:63", after := #[{ on := 19, ground := Ground.guard }], guard := some (19, false) }) rfl (by kernel_rfl) (by kernel_rfl) (by kernel_rfl) (fun _ _ _ h => h) (by rfl) hHeld ?_ ?_
              rotate_left 1
              · (simp only [Act.put, List.setIfInBounds_toArray, List.set_cons_zero, List.set_cons_succ]; try rfl)
              refine skipH (i := 26) (a' := ?_) ({ dst := some 121, op := Op.move (Operand.tmp 10), type := 3, pos := "ref.go:63", after := #[{ on := 19, ground := Ground.guard }], guard := some (19, false) }) rfl (by kernel_rfl) (by kernel_rfl) (by kernel_rfl) (fun _ _ _ h => h) (by rfl) hHeld ?_ ?_
              rotate_left 1
              · (simp only [Act.put, List.setIfInBounds_toArray, List.set_cons_zero, List.set_cons_succ]; try rfl)
              refine skipH (i := 27) (a' := ?_) ({ dst := some 122, op := Op.indexAddr 55 (Operand.tmp 120) (Operand.tmp 121), type := 0, pos := "ref.go:63", after := #[{ on := 25, ground := Ground.data }, { on := 26, ground := Ground.data }, { on := 19, ground := Ground.guard }], guard := some (19, false) }) rfl (by kernel_rfl) (by kernel_rfl) (by kernel_rfl) (fun _ _ _ h => h) (by rfl) hHeld ?_ ?_
              rotate_left 1
              · (simp only [Act.put, List.setIfInBounds_toArray, List.set_cons_zero, List.set_cons_succ]; try rfl)
              refine skipH (i := 28) (a' := ?_) ({ dst := some 123, op := Op.load 3 (Operand.tmp 122), type := 3, pos := "ref.go:63", after := #[{ on := 27, ground := Ground.data }, { on := 19, ground := Ground.guard }], guard := some (19, false) }) rfl (by kernel_rfl) (by kernel_rfl) (by kernel_rfl) (fun _ _ _ h => h) (by rfl) hHeld ?_ ?_
              rotate_left 1
              · (simp only [Act.put, List.setIfInBounds_toArray, List.set_cons_zero, List.set_cons_succ]; try rfl)
              refine skipH (i := 29) (a' := ?_) ({ dst := some 124, op := Op.call { callee := Callee.value (Operand.func 30), args := #[Operand.tmp 119, Operand.tmp 123], argTypes := #[25, 3] }, type := 3, pos := "ref.go:63", after := #[{ on := 24, ground := Ground.data }, { on := 28, ground := Ground.data }, { on := 23, ground := Ground.chain }, { on := 19, ground := Ground.guard }], guard := some (19, false) }) rfl (by kernel_rfl) (by kernel_rfl) (by kernel_rfl) (fun _ _ _ h => h) (by rfl) hHeld ?_ ?_
              rotate_left 1
              · (simp only [Act.put, List.setIfInBounds_toArray, List.set_cons_zero, List.set_cons_succ]; try rfl)
              refine skipH (i := 30) (a' := ?_) ({ dst := some 125, op := Op.binOp BinOp.neq 3 (Operand.tmp 118) (Operand.tmp 124) 3, type := 4, pos := "ref.go:63", after := #[{ on := 23, ground := Ground.data }, { on := 29, ground := Ground.data }, { on := 19, ground := Ground.guard }], guard := some (19, false) }) rfl (by kernel_rfl) (by kernel_rfl) (by kernel_rfl) (fun _ _ _ h => h) (by rfl) hHeld ?_ ?_
              rotate_left 1
              · (simp only [Act.put, List.setIfInBounds_toArray, List.set_cons_zero, List.set_cons_succ]; try rfl)
              refine takeH (i := 31) (v := ?_) (a' := ?_) ({ dst := some 126, op := Op.pick (Operand.tmp 114) (Operand.const (Value.bool true)) (Operand.tmp 125), type := 4, pos := "ref.go:63", after := #[{ on := 19, ground := Ground.data }, { on := 30, ground := Ground.data }], guard := none }) rfl (by kernel_rfl) (by kernel_rfl) (by kernel_rfl) (fun _ _ _ h => h) (by rfl) ?_ hHeld ?_ ?_
              rotate_left 2
              · (intro w' hSw; obtain ⟨q0, q1, q2, q3, q4⟩ := hSw; go_simp; try with_reducible rfl)
              · (simp only [Act.put, List.setIfInBounds_toArray, List.set_cons_zero, List.set_cons_succ]; try rfl)
              refine wpAnyH_done (by kernel_rfl) ?_ _
              refine NoPanic.normal ?_
              have hb3 := hid bx1
              clear bx0 bx1 b01 hHeld hz hz2 hfr1 hfr2 hlv1 hlv2 hS hv he
              go_wp2_with fail
              go_ret
              exact ⟨hend.out _ (hbz.out.trans (hb3.out.mono hbz.out.size)), by rw [bno hz.out (fun q => absurd (q.d d hlvh.out) hbad.out)]; rfl⟩
          · have hz := hid (hlv1.out x1 bx1 false (by simp [hv]))
            have hbad : Hid (¬ DOk m d) := fun q => hv (hdok.out.1 q).1
            refine wpAnyH_ready (rs := [9]) (by kernel_rfl) (by simp) ?_
            refine AllReadyH.cons (o := { dst := some 104, op := Op.call { callee := Callee.value (Operand.func 59), args := #[Operand.tmp 96, Operand.tmp 103], argTypes := #[22, 56] }, type := 4, pos := "ref.go:63", after := #[{ on := 1, ground := Ground.data }, { on := 8, ground := Ground.data }, { on := 7, ground := Ground.chain }], guard := none }) rfl (fun K hK => ?_) AllReadyH.nil
            go_simp
            refine hz.out.mono ?_
            rintro e x2 ⟨rfl, rfl⟩
            go_wp2_with fail
            refine hK.out _ _ (hS.out _ bx1) (fun hHeld => ?_)
            clear hK K
            try simp only [Act.put, List.setIfInBounds_toArray, List.set_cons_zero, List.set_cons_succ]
            refine takeH (i := 10) (v := ?_) (a' := ?_) ({ dst := some 105, op := Op.unOp UnOp.not 4 (Operand.tmp 104), type := 4, pos := "ref.go:63", after := #[{ on := 9, ground := Ground.data }], guard := none }) rfl (by kernel_rfl) (by kernel_rfl) (by kernel_rfl) (fun _ _ _ h => h) (by rfl) ?_ hHeld ?_ ?_
            rotate_left 2
            · (intro w' hSw; obtain ⟨q0, q1, q2, q3, q4⟩ := hSw; go_simp; try with_reducible rfl)
            · (simp only [Act.put, List.setIfInBounds_toArray, List.set_cons_zero, List.set_cons_succ]; try rfl)
            refine takeH (i := 11) (v := ?_) (a' := ?_) ({ dst := some 106, op := Op.move (Operand.tmp 105), type := 4, pos := "ref.go:63", after := #[{ on := 10, ground := Ground.data }, { on := 9, ground := Ground.chain }], guard := none }) rfl (by kernel_rfl) (by kernel_rfl) (by kernel_rfl) (fun _ _ _ h => h) (by rfl) ?_ hHeld ?_ ?_
            rotate_left 2
            · (intro w' hSw; obtain ⟨q0, q1, q2, q3, q4⟩ := hSw; go_simp; try with_reducible rfl)
            · (simp only [Act.put, List.setIfInBounds_toArray, List.set_cons_zero, List.set_cons_succ]; try rfl)
            refine skipH (i := 12) (a' := ?_) ({ dst := some 107, op := Op.fieldAddr 25 (Operand.tmp 1) 2, type := 0, pos := "ref.go:63", after := #[{ on := 11, ground := Ground.guard }], guard := some (11, false) }) rfl (by kernel_rfl) (by kernel_rfl) (by kernel_rfl) (fun _ _ _ h => h) (by rfl) hHeld ?_ ?_
            rotate_left 1
            · (simp only [Act.put, List.setIfInBounds_toArray, List.set_cons_zero, List.set_cons_succ]; try rfl)
            refine skipH (i := 13) (a' := ?_) ({ dst := some 108, op := Op.load 22 (Operand.tmp 107), type := 22, pos := "ref.go:63", after := #[{ on := 12, ground := Ground.data }, { on := 11, ground := Ground.guard }], guard := some (11, false) }) rfl (by kernel_rfl) (by kernel_rfl) (by kernel_rfl) (fun _ _ _ h => h) (by rfl) hHeld ?_ ?_
            rotate_left 1
            · (simp only [Act.put, List.setIfInBounds_toArray, List.set_cons_zero, List.set_cons_succ]; try rfl)
            refine skipH (i := 14) (a' := ?_) ({ dst := some 109, op := Op.move (Operand.tmp 11), type := 56, pos := "ref.go:63", after := #[{ on := 11, ground := Ground.guard }], guard := some (11, false) }) rfl (by kernel_rfl) (by kernel_rfl) (by kernel_rfl) (fun _ _ _ h => h) (by rfl) hHeld ?_ ?_
            rotate_left 1
            · (simp only [Act.put, List.setIfInBounds_toArray, List.set_cons_zero, List.set_cons_succ]; try rfl)
            refine skipH (i := 15) (a' := ?_) ({ dst := some 110, op := Op.binOp BinOp.quo 56 (Operand.tmp 109) (Operand.const (Value.int IntKind.u32 2)) 56, type := 56, pos := "ref.go:63", after := #[{ on := 14, ground := Ground.data }, { on := 11, ground := Ground.guard }], guard := some (11, false) }) rfl (by kernel_rfl) (by kernel_rfl) (by kernel_rfl) (fun _ _ _ h => h) (by rfl) hHeld ?_ ?_
            rotate_left 1
            · (simp only [Act.put, List.setIfInBounds_toArray, List.set_cons_zero, List.set_cons_succ]; try rfl)
            refine skipH (i := 16) (a' := ?_) ({ dst := some 111, op := Op.call { callee := Callee.value (Operand.func 59), args := #[Operand.tmp 108, Operand.tmp 110], argTypes := #[22, 56] }, type := 4, pos := "ref.go:63", after := #[{ on := 13, ground := Ground.data }, { on := 15, ground := Ground.data }, { on := 11, ground := Ground.chain }, { on := 11, ground := Ground.guard }], guard := some (11, false) }) rfl (by kernel_rfl) (by kernel_rfl) (by kernel_rfl) (fun _ _ _ h => h) (by rfl) hHeld ?_ ?_
            rotate_left 1
            · (simp only [Act.put, List.setIfInBounds_toArray, List.set_cons_zero, List.set_cons_succ]; try rfl)
            refine skipH (i := 17) (a' := ?_) ({ dst := some 112, op := Op.unOp UnOp.not 4 (Operand.tmp 111), type := 4, pos := "ref.go:63", after := #[{ on := 16, ground := Ground.data }, { on := 11, ground := Ground.guard }], guard := some (11, false) }) rfl (by kernel_rfl) (by kernel_rfl) (by kernel_rfl) (fun _ _ _ h => h) (by rfl) hHeld ?_ ?_
            rotate_left 1
            · (simp only [Act.put, List.setIfInBounds_toArray, List.set_cons_zero, List.set_cons_succ]; try rfl)
            refine takeH (i := 18) (v := ?_) (a' := ?_) ({ dst := some 113, op := Op.pick (Operand.tmp 106) (Operand.const (Value.bool true)) (Operand.tmp 112), type := 4, pos := "ref.go:63", after := #[{ on := 11, ground := Ground.data }, { on := 17, ground := Ground.data }], guard := none }) rfl (by kernel_rfl) (by kernel_rfl) (by kernel_rfl) (fun _ _ _ h => h) (by rfl) ?_ hHeld ?_ ?_
            rotate_left 2
            · (intro w' hSw; obtain ⟨q0, q1, q2, q3, q4⟩ := hSw; go_simp; try with_reducible rfl)
            · (simp only [Act.put, List.setIfInBounds_toArray, List.set_cons_zero, List.set_cons_succ]; try rfl)
            refine takeH (i := 19) (v := ?_) (a' := ?_) ({ dst := some 114, op := Op.move (Operand.tmp 113), type := 4, pos := "ref.go:63", after := #[{ on := 18, ground := Ground.data }, { on := 16, ground := Ground.chain }], guard := none }) rfl (by kernel_rfl) (by kernel_rfl) (by kernel_rfl) (fun _ _ _ h => h) (by rfl) ?_ hHeld ?_ ?_
            rotate_left 2
            · (intro w' hSw; obtain ⟨q0, q1, q2, q3, q4⟩ := hSw; go_simp; try with_reducible rfl)
            · (simp only [Act.put, List.setIfInBounds_toArray, List.set_cons_zero, List.set_cons_succ]; try rfl)
            refine skipH (i := 20) (a' := ?_) ({ dst := some 115, op := Op.load 25 (Operand.tmp 1), type := 25, pos := "ref.go:63", after := #[{ on := 19, ground := Ground.guard }], guard := some (19, false) }) rfl (by kernel_rfl) (by kernel_rfl) (by kernel_rfl) (fun _ _ _ h => h) (by rfl) hHeld ?_ ?_
            rotate_left 1
            · (simp only [Act.put, List.setIfInBounds_toArray, List.set_cons_zero, List.set_cons_succ]; try rfl)
            refine skipH (i := 21) (a' := ?_) ({ dst := some 116, op := Op.move (Operand.tmp 11), type := 56, pos := "ref.go:63", after := #[{ on := 19, ground := Ground.guard }], guard := some (19, false) }) rfl (by kernel_rfl) (by kernel_rfl) (by kernel_rfl) (fun _ _ _ h => h) (by rfl) hHeld ?_ ?_
            rotate_left 1
            · (simp only [Act.put, List.setIfInBounds_toArray, List.set_cons_zero, List.set_cons_succ]; try rfl)
            refine skipH (i := 22) (a' := ?_) ({ dst := some 117, op := Op.convert 56 3 (Operand.tmp 116), type := 3, pos := "ref.go:63", after := #[{ on := 21, ground := Ground.data }, { on := 19, ground := Ground.guard }], guard := some (19, false) }) rfl (by kernel_rfl) (by kernel_rfl) (by kernel_rfl) (fun _ _ _ h => h) (by rfl) hHeld ?_ ?_
            rotate_left 1
            · (simp only [Act.put, List.setIfInBounds_toArray, List.set_cons_zero, List.set_cons_succ]; try rfl)
            refine skipH (i := 23) (a' := ?_) ({ dst := some 118, op := Op.call { callee := Callee.value (Operand.func 30), args := #[Operand.tmp 115, Operand.tmp 117], argTypes := #[25, 3] }, type := 3, pos := "ref.go:63", after := #[{ on := 20, ground := Ground.data }, { on := 22, ground := Ground.data }, { on := 19, ground := Ground.chain }, { on := 19, ground := Ground.guard }], guard := some (19, false) }) rfl (by kernel_rfl) (by kernel_rfl) (by kernel_rfl) (fun _ _ _ h => h) (by rfl) hHeld ?_ ?_
            rotate_left 1
            · (simp only [Act.put, List.setIfInBounds_toArray, List.set_cons_zero, List.set_cons_succ]; try rfl)
            refine skipH (i := 24) (a' := ?_) ({ dst := some 119, op := Op.load 25 (Operand.tmp 1), type := 25, pos := "ref.go:63", after := #[{ on := 19, ground := Ground.guard }], guard := some (19, false) }) rfl (by kernel_rfl) (by kernel_rfl) (by kernel_rfl) (fun _ _ _ h => h) (by rfl) hHeld ?_ ?_
            rotate_left 1
            · (simp only [Act.put, List.setIfInBounds_toArray, List.set_cons_zero, List.set_cons_succ]; try rfl)
            refine skipH (i := 25) (a' := ?_) ({ dst := some 120, op := Op.move (Operand.tmp 8), type := 55, pos := "ref.go:63", after := #[{ on := 19, ground := Ground.guard }], guard := some (19, false) }) rfl (by kernel_rfl) (by kernel_rfl) (by kernel_rfl) (fun _ _ _ h => h) (by rfl) hHeld ?_ ?_
            rotate_left 1
            · (simp only [Act.put, List.setIfInBounds_toArray, List.set_cons_zero, List.set_cons_succ]; try rfl)
            refine skipH (i := 26) (a' := ?_) ({ dst := some 121, op := Op.move (Operand.tmp 10), type := 3, pos := "ref.go:63", after := #[{ on := 19, ground := Ground.guard }], guard := some (19, false) }) rfl (by kernel_rfl) (by kernel_rfl) (by kernel_rfl) (fun _ _ _ h => h) (by rfl) hHeld ?_ ?_
            rotate_left 1
            · (simp only [Act.put, List.setIfInBounds_toArray, List.set_cons_zero, List.set_cons_succ]; try rfl)
            refine skipH (i := 27) (a' := ?_) ({ dst := some 122, op := Op.indexAddr 55 (Operand.tmp 120) (Operand.tmp 121), type := 0, pos := "ref.go:63", after := #[{ on := 25, ground := Ground.data }, { on := 26, ground := Ground.data }, { on := 19, ground := Ground.guard }], guard := some (19, false) }) rfl (by kernel_rfl) (by kernel_rfl) (by kernel_rfl) (fun _ _ _ h => h) (by rfl) hHeld ?_ ?_
            rotate_left 1
            · (simp only [Act.put, List.setIfInBounds_toArray, List.set_cons_zero, List.set_cons_succ]; try rfl)
            refine skipH (i := 28) (a' := ?_) ({ dst := some 123, op := Op.load 3 (Operand.tmp 122), type := 3, pos := "ref.go:63", after := #[{ on := 27, ground := Ground.data }, { on := 19, ground := Ground.guard }], guard := some (19, false) }) rfl (by kernel_rfl) (by kernel_rfl) (by kernel_rfl) (fun _ _ _ h => h) (by rfl) hHeld ?_ ?_
            rotate_left 1
            · (simp only [Act.put, List.setIfInBounds_toArray, List.set_cons_zero, List.set_cons_succ]; try rfl)
            refine skipH (i := 29) (a' := ?_) ({ dst := some 124, op := Op.call { callee := Callee.value (Operand.func 30), args := #[Operand.tmp 119, Operand.tmp 123], argTypes := #[25, 3] }, type := 3, pos := "ref.go:63", after := #[{ on := 24, ground := Ground.data }, { on := 28, ground := Ground.data }, { on := 23, ground := Ground.chain }, { on := 19, ground := Ground.guard }], guard := some (19, false) }) rfl (by kernel_rfl) (by kernel_rfl) (by kernel_rfl) (fun _ _ _ h => h) (by rfl) hHeld ?_ ?_
            rotate_left 1
            · (simp only [Act.put, List.setIfInBounds_toArray, List.set_cons_zero, List.set_cons_succ]; try rfl)
            refine skipH (i := 30) (a' := ?_) ({ dst := some 125, op := Op.binOp BinOp.neq 3 (Operand.tmp 118) (Operand.tmp 124) 3, type := 4, pos := "ref.go:63", after := #[{ on := 23, ground := Ground.data }, { on := 29, ground := Ground.data }, { on := 19, ground := Ground.guard }], guard := some (19, false) }) rfl (by kernel_rfl) (by kernel_rfl) (by kernel_rfl) (fun _ _ _ h => h) (by rfl) hHeld ?_ ?_
            rotate_left 1
            · (simp only [Act.put, List.setIfInBounds_toArray, List.set_cons_zero, List.set_cons_succ]; try rfl)
            refine takeH (i := 31) (v := ?_) (a' := ?_) ({ dst := some 126, op := Op.pick (Operand.tmp 114) (Operand.const (Value.bool true)) (Operand.tmp 125), type := 4, pos := "ref.go:63", after := #[{ on := 19, ground := Ground.data }, { on := 30, ground := Ground.data }], guard := none }) rfl (by kernel_rfl) (by kernel_rfl) (by kernel_rfl) (fun _ _ _ h => h) (by rfl) ?_ hHeld ?_ ?_
            rotate_left 2
            · (intro w' hSw; obtain ⟨q0, q1, q2, q3, q4⟩ := hSw; go_simp; try with_reducible rfl)
            · (simp only [Act.put, List.setIfInBounds_toArray, List.set_cons_zero, List.set_cons_succ]; try rfl)
            refine wpAnyH_done (by kernel_rfl) ?_ _
            refine NoPanic.normal ?_
            have hb3 := hid bx1
            clear bx0 bx1 b01 hHeld hz hfr1 hfr2 hlv1 hlv2 hS hv
            go_wp2_with fail
            go_ret
            exact ⟨hend.out _ (hbz.out.trans (hb3.out.mono hbz.out.size)), by rw [bno hz.out (fun q => absurd (q.d d hlvh.out) hbad.out)]; rfl⟩
        · obtain rfl : i = D := by omega
          have hfit : Hid (Fit m) := fit_of hf1.out hf2.out (by rw [hln.out, hen.out]; exact hlen'.out) hzz.out (by
            have := hso.out.1
            rw [List.take_of_length_le (by rw [hDh.out]; exact Nat.le_refl _)] at this
            exact this) (by
            have := hso.out.2
            rw [List.take_of_length_le (by rw [hDh.out]; exact Nat.le_refl _)] at this
            exact this)
          go_wp2_with fail
          go_ret
          exact ⟨hend.out _ hbw.out, by rw [hz.out.2 hfit.out]; rfl⟩

end Go.Proofs.YtboafgimjadboaaGreatDoor
