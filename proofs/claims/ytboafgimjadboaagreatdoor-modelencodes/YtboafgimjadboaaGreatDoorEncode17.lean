/- model's Encode, walked. -/
import Derived.Test.YtboafgimjadboaaGreatDoorBrd
import Derived.Test.YtboafgimjadboaaGreatDoorRound17
namespace Go.Proofs.YtboafgimjadboaaGreatDoor
open Go.RowKit
set_option linter.unusedVariables false
open Wi (be be_length bc)

theorem fm_len {α : Type} {g : α → List UInt8} {N : Nat} (h : ∀ a, (g a).length ≤ N) : ∀ l : List α, (l.flatMap g).length ≤ N * l.length
  | [] => by simp
  | a :: l => by
    have := h a
    have := fm_len h l
    rw [List.flatMap_cons, List.length_append, List.length_cons, Nat.mul_succ]
    omega
theorem encE_le (q : (Int × Int) × Eg) : (encE q).length ≤ 25 := by
  unfold encE
  rw [List.length_append, encP_len]
  split
  · rw [encG_len]; omega
  · simp

/-- Its numbers are in their bounds. -/
theorem May.rn {m : Mo} (h : May m) (hl : ∀ x, x ∈ m.l → En x) : Rn m := by
  obtain ⟨⟨k, e1, k1, k2, f1⟩, ⟨k', e1', _, _, f2⟩, ht, _⟩ := h
  obtain rfl : k = k' := by omega
  have pn : ∀ ps, Ar.Fair k ps → ∀ p, p ∈ ps → Pn p := fun ps f p hp => by
    obtain ⟨a, b, c⟩ := f.mem p hp
    exact ⟨a, b, by omega, by omega⟩
  exact ⟨by omega, by omega, by have := f1.le; omega, by have := f2.le; omega, ht.1, pn _ f1, pn _ f2, hl, fun e x hx hn => (ht.2 e x hx).1 hn⟩

set_option maxRecDepth 100000 in
set_option maxHeartbeats 2000000 in
theorem encode_ok {w : World} {n : Int} {vv ev lv : Value} {m : Mo} (hm : Mp w vv ev lv m) (hn : m.n = n) (hT : Ar.Tab w) (h2 : 2 ≤ w.heap.size) (hvl : m.vs.length ≤ 1000) (hel : m.es.length ≤ 1000) (hll : m.l.length ≤ 1000) :
    Calls Tryz.prog 17 #[.agg #[.int .i64 n, vv, ev, lv]] w fun e w' => Below w.heap.size w w' ∧ ((May m ∧ ∃ u, e = .returned (.tuple #[u, .nilIface]) ∧ Bw w.heap.size w' u (enc m)) ∨ (¬ May m ∧ e = .returned (.tuple #[.slice none 0 0, .iface 67 (.int .i64 17)]))) := by
  obtain ⟨va, vn, vc, rfl, hV, _, v1, v2⟩ := hm.vs
  obtain ⟨ea, en, ec, rfl, hE, _, e1, e2⟩ := hm.es
  obtain ⟨la, ln, lc, rfl, hL, l1, l2⟩ := hm.l
  have hck := fun (y : World) (hy : Below w.heap.size w y) => check17_ok (hm.below hy) hn (tab_below hT hy) (by have := hy.size; omega) hvl hel hll
  have hrn : May m → Rn m := fun q => q.rn (fun x hx => hL.num x hx)
  have hnb : May m → ∃ N : Nat, n = (N : Int) ∧ N < 4294967296 := fun q => by
    obtain ⟨k, q1, _, q2, _⟩ := q.1
    exact ⟨k, by rw [← hn]; exact q1, by omega⟩
  have hb0 := hid (balloc w (.cells #[.int .i64 n, .slice va vn vc, .slice ea en ec, .slice la ln lc] 36))
  have hn0 := hid (new_of w #[.int .i64 n, .slice va vn vc, .slice ea en ec, .slice la ln lc] 36)
  have hvn := hV.len
  have hen := hE.len
  have hln := hL.len
  rw [hvn] at hvl
  rw [hen] at hel
  rw [hln] at hll
  replace hck := hid hck
  replace hrn := hid hrn
  replace hnb := hid hnb
  replace hvn := hid hvn
  replace hen := hid hen
  replace hln := hid hln
  replace hV := hid hV
  replace hE := hid hE
  replace hL := hid hL
  replace hn := hid hn
  have hck0 := hid (hck.out _ hb0.out)
  clear hm hT h2
  go_enter Tryz.func17, Tryz.ntmps17
  go_wp2_with fail
  refine hck0.out.mono ?_
  rintro e w2 ⟨b2, ⟨hq, rfl⟩ | ⟨hq, rfl⟩⟩
  · obtain ⟨N, rfl, hN⟩ := hnb.out hq
    have hr := hid (hrn.out hq)
    have hB2 := hid (hb0.out.trans (b2.mono hb0.out.size))
    have hn2 := (b2.block w.heap.size (Array.getElem?_eq_some_iff.1 hn0.out).1).trans hn0.out
    have c0 := cell_of hn2 (j := 0) rfl
    have c1 := cell_of hn2 (j := 1) rfl
    replace hn2 := hid hn2
    replace hq := hid hq
    have hwn := wu32 N hN
    have hwv := wu32 vn (by omega)
    have hwe := wu32 en (by omega)
    have hs2 : w.heap.size + 1 ≤ w2.heap.size := by have := (Array.getElem?_eq_some_iff.1 hn2.out).1; omega
    have b3 := balloc w2 (.cells #[.int .u32 (N : Int), .int .u32 (vn : Int)] 56)
    have hput := hid (put17_ok (base := w2.heap.size) (n := 2) (xs := [N, vn]) (vb := w2.heap.size) (v := .slice none 0 0) (l := []) (World.ownsRow_nil _ _ _ _) b3.size (by simp) rfl (fun x hx => by simp at hx; omega) (new_of _ _ _))
    have hk2 := hid (Kb.ofBelow (base := w2.heap.size) b3 (Nat.le_refl _))
    clear b2 hck0 hck hb0 hn0 hrn hnb b3
    go_upto_region 5 with fail
    refine hput.out.mono ?_
    rintro e w3 ⟨v3, rfl, hb3, k3⟩
    have hk3 := hid (hk2.out.trans k3)
    replace hb3 : Hid (Bw w2.heap.size w3 v3 (be 4 N ++ (be 4 vn ++ (m.vs.take 0).flatMap encP))) := hid (by simpa using hb3)
    clear k3 hput hk2 c0 c1
    have hn3 := hk3.out.2 _ _ _ _ hn2.out (by decide)
    have c1 := cell_of hn3 (j := 1) rfl
    have hvs : Hid (∀ y, Kb w2.heap.size w2 y → Below w.heap.size w y) := fun y hy => hB2.out.trans (hy.1.mono hB2.out.size)
    obtain ⟨hd, hhd⟩ : ∃ hd, be 4 N ++ be 4 vn = hd := ⟨_, rfl⟩
    have hhl : hd.length = 8 := by rw [← hhd]; simp [be_length]
    have hb3' : Hid (Bw w2.heap.size w3 v3 (hd ++ (m.vs.take 0).flatMap encP)) := by rw [← hhd, List.append_assoc]; exact hb3
    clear hb3
    go_wp2_with fail
    go_loopw [5, 7, 27] (fun u _ s27 wr => ∃ i : Nat, i ≤ vn ∧ s27 = .int .i64 (i : Int) ∧ Hid (Bw w2.heap.size wr u (hd ++ (m.vs.take i).flatMap encP) ∧ Kb w2.heap.size w2 wr)) (fun _ _ s27 _ => vn - (intOf s27).toNat)
    case atStart => exact ⟨0, by omega, by go_num, hb3'.out, hk3.out⟩
    case round =>
      obtain ⟨i, hi, rfl, hst⟩ := hrel
      clear hb3' c1 hn3
      have hsr := hst.out.2.1.size
      rcases Nat.lt_or_ge i vn with hlt | hge
      · obtain ⟨q, hqi⟩ : ∃ q, m.vs[i]? = some q := ⟨_, List.getElem?_eq_getElem (by rw [hvn.out]; exact hlt)⟩
        obtain ⟨vb, vo, rfl, a0, a1⟩ := (hV.out.below (hvs.out wr hst.out.2)).cell i q hqi
        have hpn := hr.out.v q (List.mem_of_getElem? hqi)
        have j1 : (0 : Int) ≤ (i : Int) := by omega
        have j2 : (i : Int) < (vn : Int) := by omega
        have b4 := balloc wr (.cells #[.int .u32 q.1, .int .i64 q.2] 86)
        have hln2 : (hd ++ (m.vs.take i).flatMap encP).length + 5 ≤ 900000 := by
          have := fm_len (g := encP) (N := 5) (fun a => by rw [encP_len]; omega) (m.vs.take i)
          rw [List.length_take] at this
          rw [List.length_append, hhl]
          omega
        have hpp := hid (putPlace_ok (ownsRow_below hst.out.1 b4) (Nat.le_trans hsr b4.size) hln2 q hpn)
        have hk4 := hid (hst.out.2.trans (Kb.ofBelow b4 hsr))
        have hnx : Hid (hd ++ (m.vs.take (i + 1)).flatMap encP = (hd ++ (m.vs.take i).flatMap encP) ++ encP q) := by
          show _ = _
          rw [List.take_add_one, hqi]
          simp
        clear b4 hst hqi hln2
        go_wp2_with fail
        refine hpp.out.mono ?_
        rintro e w5 ⟨v5, rfl, hb5, k5⟩
        have hk5 := hid (hk4.out.trans k5)
        rw [← hnx.out] at hb5
        replace hb5 := hid hb5
        clear k5 hpp hk4 a0 a1
        go_wp2_with fail
        go_roundw
        case rel => exact ⟨i + 1, by omega, by go_num, hb5.out, hk5.out⟩
        case measure => simp [intOf]; omega
      · obtain rfl : i = vn := by omega
        have hb6 := hst.out.1
        rw [← hvn.out, List.take_length] at hb6
        replace hb6 := hid hb6
        have hk6 := hid hst.out.2
        have hn6 := hk6.out.2 _ _ _ _ hn2.out (by decide)
        have c2 := cell_of hn6 (j := 2) rfl
        have hln6 : (hd ++ m.vs.flatMap encP).length ≤ 6000 := by
          have := fm_len (g := encP) (N := 5) (fun a => by rw [encP_len]; omega) m.vs
          rw [hvn.out] at this
          rw [List.length_append, hhl]
          omega
        have b7 := balloc wr (.cells #[.int .u32 (en : Int)] 56)
        have hput := hid (put17_ok (n := 1) (xs := [en]) (vb := wr.heap.size) (ownsRow_below hb6.out b7) (Nat.le_trans hsr b7.size) (by omega) rfl (fun x hx => by simp at hx; omega) (new_of _ _ _))
        have hk7 := hid (hk6.out.trans (Kb.ofBelow b7 hsr))
        clear hst hn6 b7 hb6 hk6
        go_wp2_with fail
        refine hput.out.mono ?_
        rintro e w8 ⟨v8, rfl, hb8, k8⟩
        have hk8 := hid (hk7.out.trans k8)
        obtain ⟨hh, hhh⟩ : ∃ hh, hd ++ m.vs.flatMap encP ++ [en].flatMap (be 4) = hh := ⟨_, rfl⟩
        have hhl2 : hh.length ≤ 6004 := by rw [← hhh, List.length_append, show ([en].flatMap (be 4)).length = 4 from by rw [List.flatMap_cons, List.flatMap_nil, List.append_nil, be_length]]; omega
        have hen2 : Hid (enc m = hh ++ (m.es.zip m.l).flatMap encE) := by
          show _ = _
          unfold enc
          rw [← hhh, ← hhd, hn.out, hvn.out, hen.out]
          simp
        have hb8' : Hid (Bw w2.heap.size w8 v8 (hh ++ ((m.es.zip m.l).take 0).flatMap encE)) := by
          rw [hhh] at hb8
          exact hid (by simpa using hb8)
        have hn8 := hk8.out.2 _ _ _ _ hn2.out (by decide)
        have c2' := cell_of hn8 (j := 2) rfl
        have hzl : Hid ((m.es.zip m.l).length = en) := by
          show _ = _
          rw [List.length_zip, hr.out.len, hen.out]
          omega
        clear k8 hput hk7 c2 hb8 hhh
        go_wp2_with fail
        go_loopw [5, 8, 9, 45] (fun u _ _ s45 wr => ∃ i : Nat, i ≤ en ∧ s45 = .int .i64 (i : Int) ∧ Hid (Bw w2.heap.size wr u (hh ++ ((m.es.zip m.l).take i).flatMap encE) ∧ Kb w2.heap.size w2 wr)) (fun _ _ _ s45 _ => en - (intOf s45).toNat)
        case atStart => exact ⟨0, by omega, by go_num, hb8'.out, hk8.out⟩
        case round =>
          obtain ⟨j, hj, rfl, hst⟩ := hrel
          clear hb8' c2' hn8
          have hsr := hst.out.2.1.size
          rcases Nat.lt_or_ge j en with hlt | hge
          · obtain ⟨q, hqi⟩ : ∃ q, m.es[j]? = some q := ⟨_, List.getElem?_eq_getElem (by rw [hen.out]; exact hlt)⟩
            obtain ⟨x, hxi⟩ : ∃ x, m.l[j]? = some x := ⟨_, List.getElem?_eq_getElem (by rw [hr.out.len, hen.out]; exact hlt)⟩
            obtain ⟨eb, eo, rfl, a0, a1⟩ := (hE.out.below (hvs.out wr hst.out.2)).cell j q hqi
            have hpn := hr.out.e q (List.mem_of_getElem? hqi)
            have hxn := hr.out.l x (List.mem_of_getElem? hxi)
            have j1 : (0 : Int) ≤ (j : Int) := by omega
            have j2 : (j : Int) < (en : Int) := by omega
            have b4 := balloc wr (.cells #[.int .u32 q.1, .int .i64 q.2] 86)
            have hln2 : (hh ++ ((m.es.zip m.l).take j).flatMap encE).length + 5 ≤ 800000 := by
              have := fm_len (g := encE) (N := 25) encE_le ((m.es.zip m.l).take j)
              rw [List.length_take, hzl.out] at this
              rw [List.length_append]
              omega
            obtain ⟨lg, hlg⟩ : ∃ lg, hh ++ ((m.es.zip m.l).take j).flatMap encE = lg := ⟨_, rfl⟩
            have hnx : Hid (hh ++ ((m.es.zip m.l).take (j + 1)).flatMap encE = (lg ++ encP q) ++ (if q.2 = 1 then encG x else [])) := by
              have hz : (m.es.zip m.l)[j]? = some (q, x) := by rw [List.getElem?_zip_eq_some]; exact ⟨hqi, hxi⟩
              show _ = _
              rw [List.take_add_one, hz, ← hlg]
              simp [encE]
            rw [hlg] at hst hln2
            have hpp := hid (putPlace_ok (ownsRow_below hst.out.1 b4) (Nat.le_trans hsr b4.size) (by omega) q hpn)
            have hk4 := hid (hst.out.2.trans (Kb.ofBelow b4 hsr))
            have hn4 := hid (new_of wr #[.int .u32 q.1, .int .i64 q.2] 86)
            replace hxi := hid hxi
            replace hxn := hid hxn
            clear b4 hst hqi hlg hpn
            go_wp2_with fail
            refine hpp.out.mono ?_
            rintro e w5 ⟨v5, rfl, hb5, k5⟩
            have hk5 := hid (hk4.out.trans k5)
            have hn5 := k5.2 _ _ _ _ hn4.out (by decide)
            have c9 := cell_of hn5 (j := 1) rfl
            have hs5 := hk5.out.1.size
            clear k5 hpp hk4 a0 a1 hn4
            by_cases hq1 : q.2 = 1
            · have t1 : (q.2 == 1) = true := by simp [hq1]
              rw [if_pos hq1] at hnx
              have hnb5 := hk5.out.2 _ _ _ _ hn2.out (by decide)
              have c3 := cell_of hnb5 (j := 3) rfl
              obtain ⟨lb, lo, rfl, x0, x1, x2, x3, x4⟩ := (hL.out.below (hvs.out w5 hk5.out)).cell j x hxi.out
              have j3 : (j : Int) < (ln : Int) := by have := (List.getElem?_eq_some_iff.1 hxi.out).1; have := hln.out; omega
              have hpe := hid (putEdge_ok hb5 hs5 (by rw [List.length_append, encP_len]; omega) x hxn.out)
              clear hb5 hn5 hnb5 hq1
              go_wp2_with fail
              refine hpe.out.mono ?_
              rintro e w6 ⟨v6, rfl, hb6, k6⟩
              have hk6 := hid (hk5.out.trans k6)
              rw [← hnx.out] at hb6
              replace hb6 := hid hb6
              clear k6 hpe c9 c3 x0 x1 x2 x3 x4
              go_wp2_with fail
              go_roundw
              case rel => exact ⟨j + 1, by omega, by go_num, hb6.out, hk6.out⟩
              case measure => simp [intOf]; omega
            · have t1 : (q.2 == 1) = false := by simp [hq1]
              rw [if_neg hq1] at hnx
              rw [List.append_nil] at hnx
              rw [← hnx.out] at hb5
              replace hb5 := hid hb5
              clear hn5 hq1
              go_wp2_with fail
              go_roundw
              case rel => exact ⟨j + 1, by omega, by go_num, hb5.out, hk5.out⟩
              case measure => simp [intOf]; omega
          · obtain rfl : j = en := by omega
            have hfin : Hid (Bw w.heap.size wr u5 (enc m)) := by
              have := hst.out.1
              rw [← hzl.out, List.take_length, ← hen2.out] at this
              exact own_low this hB2.out.size
            go_wp2_with fail
            go_ret2
            exact ⟨hvs.out wr hst.out.2, .inl ⟨hq.out, _, rfl, hfin.out⟩⟩
  · have hB2 := hid (hb0.out.trans (b2.mono hb0.out.size))
    replace hq := hid hq
    clear b2 hck0 hck
    go_wp2_with fail
    go_ret2
    exact ⟨hB2.out, .inr ⟨hq.out, rfl⟩⟩

end Go.Proofs.YtboafgimjadboaaGreatDoor
