/- model's Encode, walked. What reading a model's bytes comes to: plain mathematics. -/
import Derived.Test.YtboafgimjadboaaGreatDoorBrd
import Derived.Test.YtboafgimjadboaaGreatDoorRound17
namespace Go.Proofs.YtboafgimjadboaaGreatDoor
open Go.RowKit
set_option linter.unusedVariables false
open Wi (be be_length bc)

theorem fm_len {α : Type} {g : α → List UInt8} {N : Nat} (h : ∀ a, (g a).length ≤ N) : ∀ l : List α, (l.flatMap g).length ≤ N * l.length
  | [] => by simp
  | a :: l => by
    have := h a
    have := fm_len h l
    rw [List.flatMap_cons, List.length_append, List.length_cons, Nat.mul_succ]
    omega
theorem encE_le (q : (Int × Int) × Eg) : (encE q).length ≤ 25 := by
  unfold encE
  rw [List.length_append, encP_len]
  split
  · rw [encG_len]; omega
  · simp

/-- Its numbers are in their bounds. -/
theorem May.rn {m : Mo} (h : May m) (hl : ∀ x, x ∈ m.l → En x) : Rn m := by
  obtain ⟨⟨k, e1, k1, k2, f1⟩, ⟨k', e1', _, _, f2⟩, ht, _⟩ := h
  obtain rfl : k = k' := by omega
  have pn : ∀ ps, Ar.Fair k ps → ∀ p, p ∈ ps → Pn p := fun ps f p hp => by
    obtain ⟨a, b, c⟩ := f.mem p hp
    exact ⟨a, b, by omega, by omega⟩
  exact ⟨by omega, by omega, by have := f1.le; omega, by have := f2.le; omega, ht.1, pn _ f1, pn _ f2, hl, fun e x hx hn => (ht.2 e x hx).1 hn⟩

set_option maxRecDepth 100000 in
set_option maxHeartbeats 2000000 in
theorem encode_ok {w : World} {n : Int} {vv ev lv : Value} {m : Mo} (hm : Mp w vv ev lv m) (hn : m.n = n) (hT : Ar.Tab w) (h2 : 2 ≤ w.heap.size) (hvl : m.vs.length ≤ 1000) (hel : m.es.length ≤ 1000) (hll : m.l.length ≤ 1000) :
    Calls Tryz.prog 17 #[.agg #[.int .i64 n, vv, ev, lv]] w fun e w' => Below w.heap.size w w' ∧ ((May m ∧ ∃ u, e = .returned (.tuple #[u, .nilIface]) ∧ Bw w.heap.size w' u (enc m)) ∨ (¬ May m ∧ e = .returned (.tuple #[.slice none 0 0, .iface 67 (.int .i64 17)]))) := by
  obtain ⟨va, vn, vc, rfl, hV, _, v1, v2⟩ := hm.vs
  obtain ⟨ea, en, ec, rfl, hE, _, e1, e2⟩ := hm.es
  obtain ⟨la, ln, lc, rfl, hL, l1, l2⟩ := hm.l
  have hck := fun (y : World) (hy : Below w.heap.size w y) => check17_ok (hm.below hy) hn (tab_below hT hy) (by have := hy.size; omega) hvl hel hll
  have hrn : May m → Rn m := fun q => q.rn (fun x hx => hL.num x hx)
  have hnb : May m → ∃ N : Nat, n = (N : Int) ∧ N < 4294967296 := fun q => by
    obtain ⟨k, q1, _, q2, _⟩ := q.1
    exact ⟨k, by rw [← hn]; exact q1, by omega⟩
  have hb0 := hid (balloc w (.cells #[.int .i64 n, .slice va vn vc, .slice ea en ec, .slice la ln lc] 36))
  have hn0 := hid (new_of w #[.int .i64 n, .slice va vn vc, .slice ea en ec, .slice la ln lc] 36)
  have hvn := hV.len
  have hen := hE.len
  have hln := hL.len
  rw [hvn] at hvl
  rw [hen] at hel
  rw [hln] at hll
  replace hck := hid hck
  replace hrn := hid hrn
  replace hnb := hid hnb
  replace hvn := hid hvn
  replace hen := hid hen
  replace hln := hid hln
  replace hV := hid hV
  replace hE := hid hE
  replace hL := hid hL
  replace hn := hid hn
  have hck0 := hid (hck.out _ hb0.out)
  clear hm hT h2
  go_enter Tryz.func17, Tryz.ntmps17
  go_wp2_with fail
  refine hck0.out.mono ?_
  rintro e w2 ⟨b2, ⟨hq, rfl⟩ | ⟨hq, rfl⟩⟩
  · obtain ⟨N, rfl, hN⟩ := hnb.out hq
    have hr := hid (hrn.out hq)
    have hB2 := hid (hb0.out.trans (b2.mono hb0.out.size))
    have hn2 := (b2.block w.heap.size (Array.getElem?_eq_some_iff.1 hn0.out).1).trans hn0.out
    have c0 := cell_of hn2 (j := 0) rfl
    have c1 := cell_of hn2 (j := 1) rfl
    replace hn2 := hid hn2
    replace hq := hid hq
    have hwn := wu32 N hN
    have hwv := wu32 vn (by omega)
    have hwe := wu32 en (by omega)
    have hs2 : w.heap.size + 1 ≤ w2.heap.size := by have := (Array.getElem?_eq_some_iff.1 hn2.out).1; omega
    have b3 := balloc w2 (.cells #[.int .u32 (N : Int), .int .u32 (vn : Int)] 56)
    have hput := hid (put17_ok (base := w2.heap.size) (n := 2) (xs := [N, vn]) (vb := w2.heap.size) (v := .slice none 0 0) (l := []) (World.ownsRow_nil _ _ _ _) b3.size (by simp) rfl (fun x hx => by simp at hx; omega) (new_of _ _ _))
    have hk2 := hid (Kb.ofBelow (base := w2.heap.size) b3 (Nat.le_refl _))
    clear b2 hck0 hck hb0 hn0 hrn hnb b3
    go_upto_region 5 with fail
    refine hput.out.mono ?_
    rintro e w3 ⟨v3, rfl, hb3, k3⟩
    have hk3 := hid (hk2.out.trans k3)
    replace hb3 : Hid (Bw w2.heap.size w3 v3 (be 4 N ++ (be 4 vn ++ (m.vs.take 0).flatMap encP))) := hid (by simpa using hb3)
    clear k3 hput hk2 c0 c1
    have hn3 := hk3.out.2 _ _ _ _ hn2.out (by decide)
    have c1 := cell_of hn3 (j := 1) rfl
    have hvs : Hid (∀ y, Kb w2.heap.size w2 y → Below w.heap.size w y) := fun y hy => hB2.out.trans (hy.1.mono hB2.out.size)
    obtain ⟨hd, hhd⟩ : ∃ hd, be 4 N ++ be 4 vn = hd := ⟨_, rfl⟩
    have hhl : hd.length = 8 := by rw [← hhd]; simp [be_length]
    have hb3' : Hid (Bw w2.heap.size w3 v3 (hd ++ (m.vs.take 0).flatMap encP)) := by rw [← hhd, List.append_assoc]; exact hb3
    clear hb3
    go_wp2_with fail
    go_loopw [5, 7, 27] (fun u _ s27 wr => ∃ i : Nat, i ≤ vn ∧ s27 = .int .i64 (i : Int) ∧ Hid (Bw w2.heap.size wr u (hd ++ (m.vs.take i).flatMap encP) ∧ Kb w2.heap.size w2 wr)) (fun _ _ s27 _ => vn - (intOf s27).toNat)
    case atStart => exact ⟨0, by omega, by go_num, hb3'.out, hk3.out⟩
    case round =>
      obtain ⟨i, hi, rfl, hst⟩ := hrel
      clear hb3' c1 hn3
      have hsr := hst.out.2.1.size
      rcases Nat.lt_or_ge i vn with hlt | hge
      · obtain ⟨q, hqi⟩ : ∃ q, m.vs[i]? = some q := ⟨_, List.getElem?_eq_getElem (by rw [hvn.out]; exact hlt)⟩
        obtain ⟨vb, vo, rfl, a0, a1⟩ := (hV.out.below (hvs.out wr hst.out.2)).cell i q hqi
        have hpn := hr.out.v q (List.mem_of_getElem? hqi)
        have j1 : (0 : Int) ≤ (i : Int) := by omega
        have j2 : (i : Int) < (vn : Int) := by omega
        have b4 := balloc wr (.cells #[.int .u32 q.1, .int .i64 q.2] 86)
        have hln2 : (hd ++ (m.vs.take i).flatMap encP).length + 5 ≤ 900000 := by
          have := fm_len (g := encP) (N := 5) (fun a => by rw [encP_len]; omega) (m.vs.take i)
          rw [List.length_take] at this
          rw [List.length_append, hhl]
          omega
        have hpp := hid (putPlace_ok (ownsRow_below hst.out.1 b4) (Nat.le_trans hsr b4.size) hln2 q hpn)
        have hk4 := hid (hst.out.2.trans (Kb.ofBelow b4 hsr))
        have hnx : Hid (hd ++ (m.vs.take (i + 1)).flatMap encP = (hd ++ (m.vs.take i).flatMap encP) ++ encP q) := by
          show _ = _
          rw [List.take_add_one, hqi]
          simp
        clear b4 hst hqi hln2
        go_wp2_with fail
        refine hpp.out.mono ?_
        rintro e w5 ⟨v5, rfl, hb5, k5⟩
        have hk5 := hid (hk4.out.trans k5)
        rw [← hnx.out] at hb5
        replace hb5 := hid hb5
        clear k5 hpp hk4 a0 a1
        go_wp2_with fail
        go_roundw
        case rel => exact ⟨i + 1, by omega, by go_num, hb5.out, hk5.out⟩
        case measure => simp [intOf]; omega
      · obtain rfl : i = vn := by omega
        have hb6 := hst.out.1
        rw [← hvn.out, List.take_length] at hb6
        replace hb6 := hid hb6
        have hk6 := hid hst.out.2
        have hn6 := hk6.out.2 _ _ _ _ hn2.out (by decide)
        have c2 := cell_of hn6 (j := 2) rfl
        have hln6 : (hd ++ m.vs.flatMap encP).length ≤ 6000 := by
          have := fm_len (g := encP) (N := 5) (fun a => by rw [encP_len]; omega) m.vs
          rw [hvn.out] at this
          rw [List.length_append, hhl]
          omega
        have b7 := balloc wr (.cells #[.int .u32 (en : Int)] 56)
        have hput := hid (put17_ok (n := 1) (xs := [en]) (vb := wr.heap.size) (ownsRow_below hb6.out b7) (Nat.le_trans hsr b7.size) (by omega) rfl (fun x hx => by simp at hx; omega) (new_of _ _ _))
        have hk7 := hid (hk6.out.trans (Kb.ofBelow b7 hsr))
        clear hst hn6 b7 hb6 hk6
        go_wp2_with fail
        refine hput.out.mono ?_
        rintro e w8 ⟨v8, rfl, hb8, k8⟩
        have hk8 := hid (hk7.out.trans k8)
        obtain ⟨hh, hhh⟩ : ∃ hh, hd ++ m.vs.flatMap encP ++ [en].flatMap (be 4) = hh := ⟨_, rfl⟩
        have hhl2 : hh.length ≤ 6004 := by rw [← hhh, List.length_append, show ([en].flatMap (be 4)).length = 4 from by rw [List.flatMap_cons, List.flatMap_nil, List.append_nil, be_length]]; omega
        have hen2 : Hid (enc m = hh ++ (m.es.zip m.l).flatMap encE) := by
          show _ = _
          unfold enc
          rw [← hhh, ← hhd, hn.out, hvn.out, hen.out]
          simp
        have hb8' : Hid (Bw w2.heap.size w8 v8 (hh ++ ((m.es.zip m.l).take 0).flatMap encE)) := by
          rw [hhh] at hb8
          exact hid (by simpa using hb8)
        have hn8 := hk8.out.2 _ _ _ _ hn2.out (by decide)
        have c2' := cell_of hn8 (j := 2) rfl
        have hzl : Hid ((m.es.zip m.l).length = en) := by
          show _ = _
          rw [List.length_zip, hr.out.len, hen.out]
          omega
        clear k8 hput hk7 c2 hb8 hhh
        go_wp2_with fail
        go_loopw [5, 8, 9, 45] (fun u _ _ s45 wr => ∃ i : Nat, i ≤ en ∧ s45 = .int .i64 (i : Int) ∧ Hid (Bw w2.heap.size wr u (hh ++ ((m.es.zip m.l).take i).flatMap encE) ∧ Kb w2.heap.size w2 wr)) (fun _ _ _ s45 _ => en - (intOf s45).toNat)
        case atStart => exact ⟨0, by omega, by go_num, hb8'.out, hk8.out⟩
        case round =>
          obtain ⟨j, hj, rfl, hst⟩ := hrel
          clear hb8' c2' hn8
          have hsr := hst.out.2.1.size
          rcases Nat.lt_or_ge j en with hlt | hge
          · obtain ⟨q, hqi⟩ : ∃ q, m.es[j]? = some q := ⟨_, List.getElem?_eq_getElem (by rw [hen.out]; exact hlt)⟩
            obtain ⟨x, hxi⟩ : ∃ x, m.l[j]? = some x := ⟨_, List.getElem?_eq_getElem (by rw [hr.out.len, hen.out]; exact hlt)⟩
            obtain ⟨eb, eo, rfl, a0, a1⟩ := (hE.out.below (hvs.out wr hst.out.2)).cell j q hqi
            have hpn := hr.out.e q (List.mem_of_getElem? hqi)
            have hxn := hr.out.l x (List.mem_of_getElem? hxi)
            have j1 : (0 : Int) ≤ (j : Int) := by omega
            have j2 : (j : Int) < (en : Int) := by omega
            have b4 := balloc wr (.cells #[.int .u32 q.1, .int .i64 q.2] 86)
            have hln2 : (hh ++ ((m.es.zip m.l).take j).flatMap encE).length + 5 ≤ 800000 := by
              have := fm_len (g := encE) (N := 25) encE_le ((m.es.zip m.l).take j)
              rw [List.length_take, hzl.out] at this
              rw [List.length_append]
              omega
            obtain ⟨lg, hlg⟩ : ∃ lg, hh ++ ((m.es.zip m.l).take j).flatMap encE = lg := ⟨_, rfl⟩
            have hnx : Hid (hh ++ ((m.es.zip m.l).take (j + 1)).flatMap encE = (lg ++ encP q) ++ (if q.2 = 1 then encG x else [])) := by
              have hz : (m.es.zip m.l)[j]? = some (q, x) := by rw [List.getElem?_zip_eq_some]; exact ⟨hqi, hxi⟩
              show _ = _
              rw [List.take_add_one, hz, ← hlg]
              simp [encE]
            rw [hlg] at hst hln2
            have hpp := hid (putPlace_ok (ownsRow_below hst.out.1 b4) (Nat.le_trans hsr b4.size) (by omega) q hpn)
            have hk4 := hid (hst.out.2.trans (Kb.ofBelow b4 hsr))
            have hn4 := hid (new_of wr #[.int .u32 q.1, .int .i64 q.2] 86)
            replace hxi := hid hxi
            replace hxn := hid hxn
            clear b4 hst hqi hlg hpn
            go_wp2_with fail
            refine hpp.out.mono ?_
            rintro e w5 ⟨v5, rfl, hb5, k5⟩
            have hk5 := hid (hk4.out.trans k5)
            have hn5 := k5.2 _ _ _ _ hn4.out (by decide)
            have c9 := cell_of hn5 (j := 1) rfl
            have hs5 := hk5.out.1.size
            clear k5 hpp hk4 a0 a1 hn4
            by_cases hq1 : q.2 = 1
            · have t1 : (q.2 == 1) = true := by simp [hq1]
              rw [if_pos hq1] at hnx
              have hnb5 := hk5.out.2 _ _ _ _ hn2.out (by decide)
              have c3 := cell_of hnb5 (j := 3) rfl
              obtain ⟨lb, lo, rfl, x0, x1, x2, x3, x4⟩ := (hL.out.below (hvs.out w5 hk5.out)).cell j x hxi.out
              have j3 : (j : Int) < (ln : Int) := by have := (List.getElem?_eq_some_iff.1 hxi.out).1; have := hln.out; omega
              have hpe := hid (putEdge_ok hb5 hs5 (by rw [List.length_append, encP_len]; omega) x hxn.out)
              clear hb5 hn5 hnb5 hq1
              go_wp2_with fail
              refine hpe.out.mono ?_
              rintro e w6 ⟨v6, rfl, hb6, k6⟩
              have hk6 := hid (hk5.out.trans k6)
              rw [← hnx.out] at hb6
              replace hb6 := hid hb6
              clear k6 hpe c9 c3 x0 x1 x2 x3 x4
              go_wp2_with fail
              go_roundw
              case rel => exact ⟨j + 1, by omega, by go_num, hb6.out, hk6.out⟩
              case measure => simp [intOf]; omega
            · have t1 : (q.2 == 1) = false := by simp [hq1]
              rw [if_neg hq1] at hnx
              rw [List.append_nil] at hnx
              rw [← hnx.out] at hb5
              replace hb5 := hid hb5
              clear hn5 hq1
              go_wp2_with fail
              go_roundw
              case rel => exact ⟨j + 1, by omega, by go_num, hb5.out, hk5.out⟩
              case measure => simp [intOf]; omega
          · obtain rfl : j = en := by omega
            have hfin : Hid (Bw w.heap.size wr u5 (enc m)) := by
              have := hst.out.1
              rw [← hzl.out, List.take_length, ← hen2.out] at this
              exact own_low this hB2.out.size
            go_wp2_with fail
            go_ret2
            exact ⟨hvs.out wr hst.out.2, .inl ⟨hq.out, _, rfl, hfin.out⟩⟩
  · have hB2 := hid (hb0.out.trans (b2.mono hb0.out.size))
    replace hq := hid hq
    clear b2 hck0 hck
    go_wp2_with fail
    go_ret2
    exact ⟨hB2.out, .inr ⟨hq.out, rfl⟩⟩

end Go.Proofs.YtboafgimjadboaaGreatDoor

namespace Go.Proofs.YtboafgimjadboaaGreatDoor
set_option linter.unusedVariables false
open Wi (be be_length num num_be num_cons num_lt)

theorem be_low (n : Nat) : ∀ (a r : Nat), be n (a * 256 ^ n + r) = be n r := by
  intro a r
  rw [Wi.num_inj_be]
  rw [Nat.mul_comm, Nat.mul_add_mod]

theorem be_num : ∀ l : List UInt8, be l.length (num l) = l
  | [] => rfl
  | b :: l => by
    have h1 := num_lt l
    show UInt8.ofNat (num (b :: l) / 256 ^ l.length) :: be l.length (num (b :: l)) = b :: l
    rw [num_cons, be_low, be_num l]
    congr 1
    rw [Nat.mul_comm, Nat.mul_add_div (Nat.pow_pos (by omega)), Nat.div_eq_of_lt h1, Nat.add_zero]
    exact UInt8.ofNat_toNat

theorem tk_mono {N : Nat} {l : List UInt8} {z : Bool} (h : tkw N l z = false) : z = false ∧ N ≤ l.length := by
  unfold tkw at h
  split at h
  · next q => exact ⟨h, q⟩
  · cases h

theorem tk_split {N : Nat} {l : List UInt8} (h : N ≤ l.length) : l = be N (tkv N l) ++ tkl N l := by
  unfold tkv tkl
  rw [if_pos h, if_pos h]
  have := be_num (l.take N)
  rw [List.length_take, Nat.min_eq_left h] at this
  rw [this, List.take_append_drop]

theorem tk_be {N x : Nat} (hx : x < 256 ^ N) (r : List UInt8) (z : Bool) : tkv N (be N x ++ r) = x ∧ tkl N (be N x ++ r) = r ∧ tkw N (be N x ++ r) z = z := by
  have hl : N ≤ (be N x ++ r).length := by rw [List.length_append, be_length]; omega
  unfold tkv tkl tkw
  rw [if_pos hl, if_pos hl, if_pos hl]
  refine ⟨?_, ?_, rfl⟩
  · rw [List.take_append_of_le_length (by rw [be_length]; omega), List.take_of_length_le (by rw [be_length]; omega), num_be, Nat.mod_eq_of_lt hx]
  · rw [List.drop_append_of_le_length (by rw [be_length]; omega), List.drop_of_length_le (by rw [be_length]; omega)]; rfl

theorem mn_mono {l : List UInt8} {z : Bool} (h : mnw l z = false) : tkw 4 l z = false ∧ mnv l = tkv 4 l ∧ tkv 4 l ≤ 1048576 := by
  unfold mnw at h
  split at h
  · next q =>
    have q' := q
    unfold mnB at q'
    rw [decide_eq_true_iff] at q'
    exact ⟨h, by unfold mnv; rw [if_pos q], q'.1⟩
  · cases h

theorem mnv_le (l : List UInt8) : 5 * mnv l ≤ (tkl 4 l).length := by
  unfold mnv
  split
  · next q => unfold mnB at q; rw [decide_eq_true_iff] at q; exact q.2
  · omega

theorem mn_be {x : Nat} (hx : x ≤ 1048576) (r : List UInt8) (hr : 5 * x ≤ r.length) (z : Bool) : mnv (be 4 x ++ r) = x ∧ mnw (be 4 x ++ r) z = z := by
  obtain ⟨e1, e2, e3⟩ := tk_be (N := 4) (x := x) (by omega) r z
  have hB : mnB (be 4 x ++ r) = true := by unfold mnB; rw [e1, e2]; exact decide_eq_true ⟨hx, hr⟩
  unfold mnv mnw
  rw [if_pos hB, if_pos hB, e1, e3]
  exact ⟨rfl, rfl⟩

theorem tkl_le (N : Nat) (l : List UInt8) : (tkl N l).length ≤ l.length := by
  unfold tkl
  split
  · rw [List.length_drop]; omega
  · omega

/-- Places. -/
def plN : Nat → List UInt8 → List UInt8
  | 0, l => l
  | k + 1, l => pll (plN k l)
def plZ : Nat → List UInt8 → Bool → Bool
  | 0, _, z => z
  | k + 1, l, z => plw (plN k l) (plZ k l z)
def plA (k : Nat) (l : List UInt8) : Int × Int := plv (plN k l)
def pls (k : Nat) (l : List UInt8) : List (Int × Int) := (List.range k).map (fun i => plA i l)

theorem plv_pn (l : List UInt8) : Pn (plv l) := by
  have h1 := tkv_lt 4 l
  have h2 := tkv_lt 1 (tkl 4 l)
  unfold plv Pn
  dsimp only
  omega

theorem pl_mono {l : List UInt8} {z : Bool} (h : plw l z = false) : z = false ∧ l = encP (plv l) ++ pll l := by
  obtain ⟨h1, h2⟩ := tk_mono h
  obtain ⟨h3, h4⟩ := tk_mono h1
  refine ⟨h3, ?_⟩
  have e1 := tk_split h4
  have e2 := tk_split h2
  unfold encP plv pll
  simp only [Int.toNat_natCast]
  rw [List.append_assoc, ← e2, ← e1]

theorem pl_enc {p : Int × Int} (hp : Pn p) (r : List UInt8) (z : Bool) : plv (encP p ++ r) = p ∧ pll (encP p ++ r) = r ∧ plw (encP p ++ r) z = z := by
  obtain ⟨a1, a2, a3, a4⟩ := hp
  have e : encP p ++ r = be 4 p.1.toNat ++ (be 1 p.2.toNat ++ r) := by unfold encP; rw [List.append_assoc]
  obtain ⟨b1, b2, b3⟩ := tk_be (N := 4) (x := p.1.toNat) (by omega) (be 1 p.2.toNat ++ r) z
  obtain ⟨c1, c2, c3⟩ := tk_be (N := 1) (x := p.2.toNat) (by omega) r z
  unfold plv pll plw
  rw [e, b1, b2, b3, c1, c2, c3]
  exact ⟨Prod.ext (by show ((p.1.toNat : Nat) : Int) = p.1; omega) (by show ((p.2.toNat : Nat) : Int) = p.2; omega), rfl, rfl⟩

theorem pls_succ (k : Nat) (l : List UInt8) : pls (k + 1) l = pls k l ++ [plA k l] := by simp [pls, List.range_succ]
theorem pls_len (k : Nat) (l : List UInt8) : (pls k l).length = k := by simp [pls]

theorem pls_sound {l : List UInt8} {z : Bool} : ∀ k, plZ k l z = false → z = false ∧ l = (pls k l).flatMap encP ++ plN k l
  | 0, h => ⟨h, rfl⟩
  | k + 1, h => by
    obtain ⟨h1, h2⟩ := pl_mono h
    obtain ⟨h3, h4⟩ := pls_sound k h1
    refine ⟨h3, ?_⟩
    rw [pls_succ, List.flatMap_append, List.append_assoc, List.flatMap_cons, List.flatMap_nil, List.append_nil]
    show l = _ ++ (encP (plv (plN k l)) ++ pll (plN k l))
    rw [← h2]
    exact h4

theorem pls_enc {qs : List (Int × Int)} (hq : ∀ p, p ∈ qs → Pn p) (r : List UInt8) (z : Bool) : ∀ k, k ≤ qs.length → plN k (qs.flatMap encP ++ r) = (qs.drop k).flatMap encP ++ r ∧ plZ k (qs.flatMap encP ++ r) z = z ∧ pls k (qs.flatMap encP ++ r) = qs.take k
  | 0, _ => ⟨rfl, rfl, rfl⟩
  | k + 1, h => by
    obtain ⟨h1, h2, h3⟩ := pls_enc hq r z k (by omega)
    have hd : qs.drop k = qs[k] :: qs.drop (k + 1) := List.drop_eq_getElem_cons (by omega)
    have e : plN k (qs.flatMap encP ++ r) = encP qs[k] ++ ((qs.drop (k + 1)).flatMap encP ++ r) := by rw [h1, hd, List.flatMap_cons, List.append_assoc]
    obtain ⟨a1, a2, a3⟩ := pl_enc (hq _ (List.getElem_mem (by omega : k < qs.length))) ((qs.drop (k + 1)).flatMap encP ++ r) z
    refine ⟨?_, ?_, ?_⟩
    · show pll (plN k _) = _
      rw [e, a2]
    · show plw (plN k _) (plZ k _ z) = _
      rw [e, h2, a3]
    · rw [pls_succ, h3]
      unfold plA
      rw [e, a1, List.take_succ_eq_append_getElem (by omega)]

/-- An edge's numbers. -/
theorem eg_en (l : List UInt8) : En (egl l) := by
  have h0 := tkv_lt 4 (tkn 0 l)
  have h1 := tkv_lt 4 (tkn 1 l)
  have h2 := tkv_lt 4 (tkn 2 l)
  have h3 := tkv_lt 4 (tkn 3 l)
  have h4 := tkv_lt 4 (tkn 4 l)
  unfold En egl tka sg
  dsimp only
  refine ⟨by omega, by omega, by omega, by omega, ?_, ?_⟩ <;> split <;> omega

theorem sg_mod (V : Nat) (h : V < 4294967296) : (sg V % 4294967296).toNat = V := by
  unfold sg
  split <;> omega

theorem eg_mono {l : List UInt8} {z : Bool} (h : tkz 5 l z = false) : z = false ∧ l = encG (egl l) ++ tkn 5 l := by
  obtain ⟨h4, g4⟩ := tk_mono h
  obtain ⟨h3, g3⟩ := tk_mono h4
  obtain ⟨h2, g2⟩ := tk_mono h3
  obtain ⟨h1, g1⟩ := tk_mono h2
  obtain ⟨h0, g0⟩ := tk_mono h1
  refine ⟨h0, ?_⟩
  have e0 : tkn 0 l = be 4 (tka 0 l) ++ tkn 1 l := tk_split g0
  have e1 : tkn 1 l = be 4 (tka 1 l) ++ tkn 2 l := tk_split g1
  have e2 : tkn 2 l = be 4 (tka 2 l) ++ tkn 3 l := tk_split g2
  have e3 : tkn 3 l = be 4 (tka 3 l) ++ tkn 4 l := tk_split g3
  have e4 : tkn 4 l = be 4 (tka 4 l) ++ tkn 5 l := tk_split g4
  have hs := sg_mod (tka 4 l) (by have := tkv_lt 4 (tkn 4 l); unfold tka; omega)
  unfold encG egl
  dsimp only
  rw [hs]
  simp only [List.append_assoc]
  rw [← e4, ← e3, ← e2, ← e1, ← e0]
  rfl

theorem eg_enc {x : Eg} (hx : En x) (r : List UInt8) (z : Bool) : egl (encG x ++ r) = x ∧ tkn 5 (encG x ++ r) = r ∧ tkz 5 (encG x ++ r) z = z := by
  obtain ⟨a1, a2, a3, a4, a5, a6⟩ := hx
  obtain ⟨W, hW⟩ : ∃ W, (x.w % 4294967296).toNat = W := ⟨_, rfl⟩
  have e : encG x ++ r = be 4 x.f0 ++ (be 4 x.n0 ++ (be 4 x.f1 ++ (be 4 x.n1 ++ (be 4 W ++ r)))) := by unfold encG; rw [hW]; simp only [List.append_assoc]
  obtain ⟨b1, b2, b3⟩ := tk_be (N := 4) (x := x.f0) (by omega) (be 4 x.n0 ++ (be 4 x.f1 ++ (be 4 x.n1 ++ (be 4 W ++ r)))) z
  obtain ⟨c1, c2, c3⟩ := tk_be (N := 4) (x := x.n0) (by omega) (be 4 x.f1 ++ (be 4 x.n1 ++ (be 4 W ++ r))) z
  obtain ⟨d1, d2, d3⟩ := tk_be (N := 4) (x := x.f1) (by omega) (be 4 x.n1 ++ (be 4 W ++ r)) z
  obtain ⟨f1, f2, f3⟩ := tk_be (N := 4) (x := x.n1) (by omega) (be 4 W ++ r) z
  obtain ⟨g1, g2, g3⟩ := tk_be (N := 4) (x := W) (by omega) r z
  rw [e]
  generalize hL : be 4 x.f0 ++ (be 4 x.n0 ++ (be 4 x.f1 ++ (be 4 x.n1 ++ (be 4 W ++ r)))) = L at b1 b2 b3
  have n1 : tkn 1 L = be 4 x.n0 ++ (be 4 x.f1 ++ (be 4 x.n1 ++ (be 4 W ++ r))) := b2
  have n2 : tkn 2 L = be 4 x.f1 ++ (be 4 x.n1 ++ (be 4 W ++ r)) := by show tkl 4 (tkn 1 L) = _; rw [n1, c2]
  have n3 : tkn 3 L = be 4 x.n1 ++ (be 4 W ++ r) := by show tkl 4 (tkn 2 L) = _; rw [n2, d2]
  have n4 : tkn 4 L = be 4 W ++ r := by show tkl 4 (tkn 3 L) = _; rw [n3, f2]
  refine ⟨?_, ?_, ?_⟩
  · unfold egl tka
    rw [n1, n2, n3, n4, c1, d1, f1, g1]
    have : tkv 4 (tkn 0 L) = x.f0 := b1
    rw [this]
    have hs : sg W = x.w := by unfold sg; split <;> omega
    rw [hs]
  · show tkl 4 (tkn 4 L) = _
    rw [n4, g2]
  · show tkw 4 (tkn 4 L) (tkw 4 (tkn 3 L) (tkw 4 (tkn 2 L) (tkw 4 (tkn 1 L) (tkw 4 L z)))) = z
    rw [n1, n2, n3, n4, b3, c3, d3, f3, g3]

/-- A place and its edge off the bytes. -/
def eqA1 (l : List UInt8) : (Int × Int) × Eg := (plv l, if (plv l).2 = 1 then egl (pll l) else ez)
def eqL1 (l : List UInt8) : List UInt8 := if (plv l).2 = 1 then tkn 5 (pll l) else pll l
def eqZ1 (l : List UInt8) (z : Bool) : Bool := if (plv l).2 = 1 then tkz 5 (pll l) (plw l z) else plw l z
def eqN : Nat → List UInt8 → List UInt8
  | 0, l => l
  | k + 1, l => eqL1 (eqN k l)
def eqZ : Nat → List UInt8 → Bool → Bool
  | 0, _, z => z
  | k + 1, l, z => eqZ1 (eqN k l) (eqZ k l z)
def eqs (k : Nat) (l : List UInt8) : List ((Int × Int) × Eg) := (List.range k).map (fun i => eqA1 (eqN i l))

theorem eqs_succ (k : Nat) (l : List UInt8) : eqs (k + 1) l = eqs k l ++ [eqA1 (eqN k l)] := by simp [eqs, List.range_succ]
theorem eqs_len (k : Nat) (l : List UInt8) : (eqs k l).length = k := by simp [eqs]

theorem eqA1_qn (l : List UInt8) : Qn (eqA1 l) := by
  refine ⟨plv_pn l, ?_, fun h => ?_⟩
  · unfold eqA1
    dsimp only
    split
    · exact eg_en _
    · unfold En ez; dsimp only; omega
  · unfold eqA1 at h ⊢
    dsimp only at h ⊢
    rw [if_neg h]

theorem eq_mono {l : List UInt8} {z : Bool} (h : eqZ1 l z = false) : z = false ∧ l = encE (eqA1 l) ++ eqL1 l := by
  unfold eqZ1 at h
  unfold encE eqA1 eqL1
  dsimp only
  by_cases c : (plv l).2 = 1
  · rw [if_pos c] at h
    obtain ⟨h1, h2⟩ := eg_mono h
    obtain ⟨h3, h4⟩ := pl_mono h1
    refine ⟨h3, ?_⟩
    rw [if_pos c, if_pos c, if_pos c, List.append_assoc, ← h2]
    exact h4
  · rw [if_neg c] at h
    obtain ⟨h3, h4⟩ := pl_mono h
    refine ⟨h3, ?_⟩
    rw [if_neg c, if_neg c, List.append_nil]
    exact h4

theorem eq_enc {q : (Int × Int) × Eg} (hq : Qn q) (r : List UInt8) (z : Bool) : eqA1 (encE q ++ r) = q ∧ eqL1 (encE q ++ r) = r ∧ eqZ1 (encE q ++ r) z = z := by
  obtain ⟨h1, h2, h3⟩ := hq
  have e : encE q ++ r = encP q.1 ++ ((if q.1.2 = 1 then encG q.2 else []) ++ r) := by unfold encE; rw [List.append_assoc]
  obtain ⟨a1, a2, a3⟩ := pl_enc h1 ((if q.1.2 = 1 then encG q.2 else []) ++ r) z
  unfold eqA1 eqL1 eqZ1
  rw [e, a1, a2, a3]
  by_cases c : q.1.2 = 1
  · obtain ⟨b1, b2, b3⟩ := eg_enc h2 r z
    simp only [c, if_true]
    rw [b1, b2, b3]
    exact ⟨Prod.ext rfl rfl, rfl, rfl⟩
  · simp only [c, if_false]
    exact ⟨Prod.ext rfl (h3 c).symm, by simp, trivial⟩

theorem eqs_sound {l : List UInt8} {z : Bool} : ∀ k, eqZ k l z = false → z = false ∧ l = (eqs k l).flatMap encE ++ eqN k l
  | 0, h => ⟨h, rfl⟩
  | k + 1, h => by
    obtain ⟨h1, h2⟩ := eq_mono h
    obtain ⟨h3, h4⟩ := eqs_sound k h1
    refine ⟨h3, ?_⟩
    rw [eqs_succ, List.flatMap_append, List.append_assoc, List.flatMap_cons, List.flatMap_nil, List.append_nil]
    show l = _ ++ (encE (eqA1 (eqN k l)) ++ eqL1 (eqN k l))
    rw [← h2]
    exact h4

theorem eqs_enc {qs : List ((Int × Int) × Eg)} (hq : ∀ p, p ∈ qs → Qn p) (r : List UInt8) (z : Bool) : ∀ k, k ≤ qs.length → eqN k (qs.flatMap encE ++ r) = (qs.drop k).flatMap encE ++ r ∧ eqZ k (qs.flatMap encE ++ r) z = z ∧ eqs k (qs.flatMap encE ++ r) = qs.take k
  | 0, _ => ⟨rfl, rfl, rfl⟩
  | k + 1, h => by
    obtain ⟨h1, h2, h3⟩ := eqs_enc hq r z k (by omega)
    have hd : qs.drop k = qs[k] :: qs.drop (k + 1) := List.drop_eq_getElem_cons (by omega)
    have e : eqN k (qs.flatMap encE ++ r) = encE qs[k] ++ ((qs.drop (k + 1)).flatMap encE ++ r) := by rw [h1, hd, List.flatMap_cons, List.append_assoc]
    obtain ⟨a1, a2, a3⟩ := eq_enc (hq _ (List.getElem_mem (by omega : k < qs.length))) ((qs.drop (k + 1)).flatMap encE ++ r) z
    refine ⟨?_, ?_, ?_⟩
    · show eqL1 (eqN k _) = _
      rw [e, a2]
    · show eqZ1 (eqN k _) (eqZ k _ z) = _
      rw [e, h2, a3]
    · rw [eqs_succ, h3, e, a1, List.take_succ_eq_append_getElem (by omega)]

/-- The whole, read. -/
def dV (b : List UInt8) : Nat := mnv (tkl 4 b)
def dl3 (b : List UInt8) : List UInt8 := plN (dV b) (tkl 4 (tkl 4 b))
def dE (b : List UInt8) : Nat := mnv (dl3 b)
def dl5 (b : List UInt8) : List UInt8 := eqN (dE b) (tkl 4 (dl3 b))
def dz2 (b : List UInt8) : Bool := mnw (tkl 4 b) (tkw 4 b false)
def dz3 (b : List UInt8) : Bool := plZ (dV b) (tkl 4 (tkl 4 b)) (dz2 b)
def dz5 (b : List UInt8) : Bool := eqZ (dE b) (tkl 4 (dl3 b)) (mnw (dl3 b) (dz3 b))
def dM (b : List UInt8) : Mo := ⟨(tkv 4 b : Int), pls (dV b) (tkl 4 (tkl 4 b)), (eqs (dE b) (tkl 4 (dl3 b))).map (·.1), (eqs (dE b) (tkl 4 (dl3 b))).map (·.2)⟩

theorem zip_parts {α β : Type} : ∀ l : List (α × β), (l.map (·.1)).zip (l.map (·.2)) = l
  | [] => rfl
  | a :: l => by simp [zip_parts l]

/-- A model's bytes. -/
def Is (b : List UInt8) (m : Mo) : Prop := Rn m ∧ May m ∧ enc m = b

theorem dec_sound {b : List UInt8} (hz : dz5 b = false) (hl : dl5 b = []) : enc (dM b) = b ∧ Rn (dM b) := by
  obtain ⟨z4, e5⟩ := eqs_sound _ hz
  obtain ⟨t4, v4, w4⟩ := mn_mono z4
  obtain ⟨z3, g4⟩ := tk_mono t4
  obtain ⟨z2, e3⟩ := pls_sound _ z3
  obtain ⟨t2, v2, w2⟩ := mn_mono z2
  obtain ⟨z1, g2⟩ := tk_mono t2
  obtain ⟨_, g1⟩ := tk_mono z1
  have s1 := tk_split g1
  have s2 := tk_split g2
  have s4 := tk_split g4
  have e5' : tkl 4 (dl3 b) = (eqs (dE b) (tkl 4 (dl3 b))).flatMap encE := by
    have : eqN (dE b) (tkl 4 (dl3 b)) = [] := hl
    rw [this, List.append_nil] at e5
    exact e5
  have hq : ∀ i x, (eqs (dE b) (tkl 4 (dl3 b)))[i]? = some x → Qn x := fun i x hx => by
    have hm := List.mem_of_getElem? hx
    unfold eqs at hm
    obtain ⟨k, _, rfl⟩ := List.mem_map.1 hm
    exact eqA1_qn _
  constructor
  · unfold enc dM
    dsimp only
    rw [zip_parts, List.length_map, eqs_len, pls_len, ← e5']
    have a1 : dE b = tkv 4 (dl3 b) := v4
    have a2 : dV b = tkv 4 (tkl 4 b) := v2
    rw [a1, ← s4]
    show _ ++ (_ ++ (_ ++ dl3 b)) = b
    have a3 : (pls (dV b) (tkl 4 (tkl 4 b))).flatMap encP ++ dl3 b = tkl 4 (tkl 4 b) := e3.symm
    rw [a3, a2, ← s2, Int.toNat_natCast, ← s1]
  · have hN := tkv_lt 4 b
    refine ⟨by unfold dM; dsimp only; omega, by unfold dM; dsimp only; omega, ?_, ?_, by unfold dM; simp, fun p hp => ?_, fun p hp => ?_, fun x hx => ?_, fun i x hx hn => ?_⟩
    · unfold dM; dsimp only; rw [pls_len]; have : dV b = tkv 4 (tkl 4 b) := v2; omega
    · unfold dM; dsimp only; rw [List.length_map, eqs_len]; have : dE b = tkv 4 (dl3 b) := v4; omega
    · unfold dM pls at hp
      obtain ⟨k, _, rfl⟩ := List.mem_map.1 hp
      exact plv_pn _
    · unfold dM at hp
      obtain ⟨q, hq1, rfl⟩ := List.mem_map.1 hp
      obtain ⟨i, hi⟩ := List.getElem?_of_mem hq1
      exact (hq i q hi).1
    · unfold dM at hx
      obtain ⟨q, hq1, rfl⟩ := List.mem_map.1 hx
      obtain ⟨i, hi⟩ := List.getElem?_of_mem hq1
      exact (hq i q hi).2.1
    · unfold dM at hx hn
      dsimp only at hx hn
      rw [List.getElem?_map, Option.map_eq_some_iff] at hx
      obtain ⟨q, hq1, rfl⟩ := hx
      refine (hq i q hq1).2.2 (fun e => hn ?_)
      unfold Lv
      rw [List.getElem?_map, hq1]
      exact e

theorem dec_enc {m : Mo} (h : Rn m) (hv : m.vs.length ≤ 1048576) (he : m.es.length ≤ 1048576) : dz5 (enc m) = false ∧ dl5 (enc m) = [] ∧ dM (enc m) = m := by
  have hn0 := h.n0
  have hn1 := h.n1
  have hzl : (m.es.zip m.l).length = m.es.length := by rw [List.length_zip, h.len]; omega
  have hl1 : ∀ qs : List ((Int × Int) × Eg), 5 * qs.length ≤ (qs.flatMap encE).length := fun qs => by
    induction qs with
    | nil => simp
    | cons q qs ih =>
      rw [List.flatMap_cons, List.length_append, List.length_cons]
      have : 5 ≤ (encE q).length := by unfold encE; rw [List.length_append, encP_len]; omega
      omega
  have hl2 : ∀ qs : List (Int × Int), (qs.flatMap encP).length = 5 * qs.length := fun qs => by
    induction qs with
    | nil => simp
    | cons q qs ih => rw [List.flatMap_cons, List.length_append, List.length_cons, encP_len, ih]; omega
  obtain ⟨a1, a2, a3⟩ := tk_be (N := 4) (x := m.n.toNat) (by omega) (be 4 m.vs.length ++ (m.vs.flatMap encP ++ (be 4 m.es.length ++ (m.es.zip m.l).flatMap encE))) false
  obtain ⟨b1, b2, _⟩ := tk_be (N := 4) (x := m.vs.length) (by omega) (m.vs.flatMap encP ++ (be 4 m.es.length ++ (m.es.zip m.l).flatMap encE)) false
  obtain ⟨c1, c2⟩ := mn_be hv (m.vs.flatMap encP ++ (be 4 m.es.length ++ (m.es.zip m.l).flatMap encE)) (by rw [List.length_append, hl2]; omega) false
  obtain ⟨d1, d2, d3⟩ := pls_enc h.v (be 4 m.es.length ++ (m.es.zip m.l).flatMap encE) false m.vs.length (Nat.le_refl _)
  obtain ⟨_, f2, _⟩ := tk_be (N := 4) (x := m.es.length) (by omega) ((m.es.zip m.l).flatMap encE) false
  obtain ⟨g1, g2⟩ := mn_be he ((m.es.zip m.l).flatMap encE) (by have := hl1 (m.es.zip m.l); omega) false
  obtain ⟨k1, k2, k3⟩ := eqs_enc h.q [] false (m.es.zip m.l).length (Nat.le_refl _)
  rw [List.append_nil] at k1 k2 k3
  rw [List.drop_length, List.flatMap_nil] at k1
  rw [List.take_length] at k3
  rw [hzl] at k1 k2 k3
  have e1 : tkl 4 (enc m) = be 4 m.vs.length ++ (m.vs.flatMap encP ++ (be 4 m.es.length ++ (m.es.zip m.l).flatMap encE)) := a2
  have e2 : dV (enc m) = m.vs.length := by unfold dV; rw [e1, c1]
  have e3 : dl3 (enc m) = be 4 m.es.length ++ (m.es.zip m.l).flatMap encE := by
    unfold dl3
    rw [e2, e1, b2, d1, List.drop_length]
    rfl
  have e4 : dE (enc m) = m.es.length := by unfold dE; rw [e3, g1]
  have ez2 : dz2 (enc m) = false := by
    unfold dz2
    have : tkw 4 (enc m) false = false := a3
    rw [this, e1, c2]
  have ez3 : dz3 (enc m) = false := by unfold dz3; rw [ez2, e2, e1, b2, d2]
  refine ⟨?_, ?_, ?_⟩
  · unfold dz5
    rw [ez3, e4, e3, f2, g2, k2]
  · unfold dl5
    rw [e4, e3, f2, k1]
    rfl
  · unfold dM
    rw [e2, e1, b2, d3, e4, e3, f2, k3, List.take_length]
    have u := List.unzip_zip (l₁ := m.es) (l₂ := m.l) (by rw [h.len])
    rw [List.unzip_eq_map] at u
    simp only [Prod.mk.injEq] at u
    have : tkv 4 (enc m) = m.n.toNat := a1
    rw [this]
    cases m
    simp only [Mo.mk.injEq]
    dsimp only at u hn0 ⊢
    exact ⟨by omega, trivial, u.1, u.2⟩

/-- Just what was read can be the model. -/
theorem dec_is (b : List UInt8) : (∃ m, Is b m) ↔ dz5 b = false ∧ dl5 b = [] ∧ May (dM b) := by
  constructor
  · rintro ⟨m, hr, hm, rfl⟩
    obtain ⟨⟨k, _, _, k2, f1⟩, ⟨k', _, _, k2', f2⟩, _⟩ := id hm
    obtain ⟨h1, h2, h3⟩ := dec_enc hr (by have := f1.le; omega) (by have := f2.le; omega)
    exact ⟨h1, h2, by rw [h3]; exact hm⟩
  · rintro ⟨h1, h2, h3⟩
    obtain ⟨e, r⟩ := dec_sound h1 h2
    exact ⟨dM b, r, h3, e⟩

end Go.Proofs.YtboafgimjadboaaGreatDoor
